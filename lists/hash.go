package lists

import "copyist/api"

// What the chapter promises about hashes: they are less than modulus; so many conses or elements count, so many levels, so many words.
const (
	modulus    = 1<<31 - 1
	factor     = 31
	mostParts  = 100
	mostNested = 10
	mostWords  = 1000
)

// hasher counts the words that are visited for one hash.
type hasher struct {
	store
	visited int
}

// word returns the hash of a word that is nested within so many others.
func (x *hasher) word(w api.Word, nested int) int {
	x.visited++
	switch {
	case nested > mostNested || x.visited > mostWords:
		return 1
	case x.isCons(w):
		return x.cons(w, nested)
	case x.isVector(w):
		return x.vector(w, nested)
	case x.isText(w):
		return hashOfText(sure(x.TextOf(w)))
	}
	return add(reduce(w.Kind), reduce(w.N))
}

func (x *hasher) cons(w api.Word, nested int) int {
	hash, n := 1, 0
	for _, car := range x.conses(w) {
		if n == mostParts {
			break
		}
		hash, n = add(hash, x.word(car, nested+1)), n+1
	}
	return hash
}

func (x *hasher) vector(w api.Word, nested int) int {
	hash := 2
	for i := range min(x.size(w), mostParts) {
		hash = add(hash, x.word(sure(x.At(w, i)), nested+1))
	}
	return hash
}

func hashOfText(s string) int {
	hash := 3
	for _, c := range s {
		hash = add(hash, int(c))
	}
	return hash
}

// add returns the hash of what hash is the hash of, followed by something with the hash next.
func add(hash, next int) int { return (hash*factor + next) % modulus }

// reduce returns n modulo the modulus, from 0 on.
func reduce(n int) int { return (n%modulus + modulus) % modulus }
