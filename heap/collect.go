package heap

import "copyist/api"

// Collect removes every object that is not reachable from roots, and returns how many it removed.
func (h *Heap) Collect(roots []api.Word) int {
	if !h.valid() {
		return 0
	}
	reached := h.reached(roots)
	removed := 0
	for n, x := range h.objects {
		if x == nil || reached[n] {
			continue
		}
		h.objects[n] = nil
		h.stored -= x.size()
		h.free.release(n)
		removed++
	}
	return removed
}

// reached returns, by number, which objects are reachable from roots.
func (h *Heap) reached(roots []api.Word) []bool {
	reached := make([]bool, len(h.objects))
	// A stack instead of recursion: a chain of objects may be as long as the heap.
	var stack []object
	visit := func(w api.Word) {
		if x := h.find(w); x != nil && !reached[w.N] {
			reached[w.N] = true
			stack = append(stack, x)
		}
	}
	for _, w := range roots {
		visit(w)
	}
	for len(stack) > 0 {
		last := len(stack) - 1
		x := stack[last]
		stack = stack[:last]
		eachWord(x, visit)
	}
	return reached
}
