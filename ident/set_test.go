package ident

import (
	"math/rand/v2"
	"slices"
	"testing"
)

// wantSmallest checks the smallest number of s.
func wantSmallest(t *testing.T, s *set, want uint32, wantOK bool) {
	t.Helper()
	if n, ok := s.smallest(); n != want || ok != wantOK {
		t.Fatalf("smallest: %d, %t, want %d, %t", n, ok, want, wantOK)
	}
}

// The numbers at which each level gets a second word, the highest ones first. The numbers of the client's side are too many to get there with calls of a table.
func TestSetLevels(t *testing.T) {
	var s set
	wantSmallest(t, &s, 0, false)
	var downward []uint32
	for power := uint32(1 << 30); power > 1; power /= wordBits {
		downward = append(downward, power+1, power, power-1)
	}
	downward = append(downward, 0)
	for _, n := range downward {
		s.add(n)
		wantSmallest(t, &s, n, true)
	}
	for i, n := range slices.Backward(downward) {
		wantSmallest(t, &s, n, true)
		s.remove(n)
		if i == 0 {
			wantSmallest(t, &s, 0, false)
		}
	}
	s.add(1 << 30)
	wantSmallest(t, &s, 1<<30, true)
}

// Numbers that are added and removed in random orders, against a list.
func TestSetMany(t *testing.T) {
	source := rand.New(rand.NewPCG(5, 11))
	for _, most := range []int{3, 64, 65, 5000, 300_000} {
		var s set
		var list []uint32
		for range 4000 {
			n := uint32(source.IntN(most))
			at := slices.Index(list, n)
			if at < 0 {
				s.add(n)
				list = append(list, n)
			} else {
				s.remove(n)
				list = slices.Delete(list, at, at+1)
			}
			if len(list) == 0 {
				wantSmallest(t, &s, 0, false)
			} else {
				wantSmallest(t, &s, slices.Min(list), true)
			}
		}
	}
}
