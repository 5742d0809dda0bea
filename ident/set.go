package ident

import (
	"math/bits"
	"slices"
)

const (
	wordBits = 64
	levels   = 6 // wordBits to this power exceeds every number, so that the top level is one word
)

// A set contains numbers and finds the smallest one in as many steps as it has levels: a peer decides which identifiers it confirms and when, and must not be able to make the search for a free one long.
type set struct {
	words [levels][]uint64 // bit n of the lowest level stands for the number n, that of each other level for word n of the level below it, if that is not 0
}

// add adds n to the set.
func (s *set) add(n uint32) {
	for level := range s.words {
		word, bit := n/wordBits, n%wordBits
		for uint32(len(s.words[level])) <= word {
			s.words[level] = append(s.words[level], 0)
		}
		s.words[level][word] |= 1 << bit
		n = word
	}
}

// remove removes n, which is in the set.
func (s *set) remove(n uint32) {
	for _, words := range s.words {
		word, bit := n/wordBits, n%wordBits
		words[word] &^= 1 << bit
		if words[word] != 0 {
			return
		}
		n = word
	}
}

// smallest returns the smallest number of the set, and false if it is empty.
func (s *set) smallest() (uint32, bool) {
	if top := s.words[levels-1]; len(top) == 0 || top[0] == 0 {
		return 0, false
	}
	n := 0
	for _, words := range slices.Backward(s.words[:]) {
		n = n*wordBits + bits.TrailingZeros64(words[n])
	}
	return uint32(n), true
}
