package heap

import "container/heap"

// numbers is a set of numbers, ordered as container/heap does: the smallest one is the first.
type numbers []int

// Len returns how many numbers there are.
func (l numbers) Len() int { return len(l) }

// Less compares two numbers by their indices.
func (l numbers) Less(i, j int) bool { return l[i] < l[j] }

// Swap exchanges two numbers by their indices.
func (l numbers) Swap(i, j int) { l[i], l[j] = l[j], l[i] }

// Push appends a number.
func (l *numbers) Push(n any) { *l = append(*l, n.(int)) }

// Pop removes the last number.
func (l *numbers) Pop() any {
	last := len(*l) - 1
	n := (*l)[last]
	*l = (*l)[:last]
	return n
}

// release adds n.
func (l *numbers) release(n int) { heap.Push(l, n) }

// least removes the smallest number, and returns it; there must be one.
func (l *numbers) least() int { return heap.Pop(l).(int) }
