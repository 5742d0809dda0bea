package state_test

import (
	"slices"
	"testing"

	"compositor/api"
	"compositor/state"
)

// The chapter's example 1.
func TestExampleSizes(t *testing.T) {
	s := showing(paint("ABCD", "EFGH"))
	for _, x := range []struct {
		scale, transform int
		dest             api.Point
		w, h             int
	}{
		{1, api.Normal, api.Point{}, 4, 2},
		{1, api.Rotate90, api.Point{}, 2, 4},
		{2, api.Normal, api.Point{}, 2, 1},
		{2, api.Rotate90, api.Point{}, 1, 2},
		{1, api.Normal, api.Point{X: 5, Y: 5}, 5, 5},
		{2, api.Rotate90, api.Point{X: 5, Y: 5}, 5, 5},
	} {
		s.Scale, s.Transform, s.Dest = x.scale, x.transform, x.dest
		if w, h := state.Size(s); w != x.w || h != x.h {
			t.Errorf("%v: %d, %d", x, w, h)
		}
		if e := state.Check(s); e != api.OK {
			t.Errorf("%v: %d", x, e)
		}
	}
	s.Scale, s.Transform, s.Dest = 4, api.Normal, api.Point{}
	if e := state.Check(s); e != api.ErrBuffer {
		t.Error(e)
	}
}

// The chapter's example 2.
func TestExampleMerge(t *testing.T) {
	merges(t, showing(paint("ABCD", "EFGH")), api.State{Set: api.FieldScale, Scale: 4}, api.State{}, api.ErrBuffer)
}

// The chapter's example 3.
func TestExampleDamage(t *testing.T) {
	s := showing(paint("ABCD", "EFGH"))
	s.Damage = list{box(-1, -1, 1, 1), box(3, 0, 9, 1)}
	if l, e := state.DamageRegion(s); e != api.OK || !slices.Equal(l, list{box(0, 0, 1, 1), box(3, 0, 4, 1)}) {
		t.Error(l, e)
	}
}

// P16.1: the initial state has a scale and nothing else, and each call returns a new one.
func TestInitial(t *testing.T) {
	for range 2 {
		s := state.Initial()
		if !same(s, api.State{Scale: 1}) {
			t.Fatal(brief(s))
		}
		compare(t, s)
		s.Scale, s.Callbacks, s.Damage = 3, append(s.Callbacks, 5), append(s.Damage, box(0, 0, 1, 1))
	}
}

// P16.1: the scales from 1 to MaxScale and no others, without a buffer and with one that each scale divides.
func TestCheckScale(t *testing.T) {
	for _, n := range extremes {
		want := api.ErrArgument
		if n == 1 || n == 2 || n == 3 || n == 4 {
			want = api.OK
		}
		for _, s := range []api.State{{}, showing(plain(12, 24))} {
			s.Scale = n
			checks(t, s, want)
		}
	}
}

// checks checks the result of Check, and all functions by their definitions.
func checks(t *testing.T, s api.State, want api.Errno) {
	t.Helper()
	if e := state.Check(s); e != want {
		t.Fatalf("%v: Check is %d, want %d", brief(s), e, want)
	}
	compare(t, s)
}

// P16.1: the eight transforms and no other numbers.
func TestCheckTransform(t *testing.T) {
	for _, n := range extremes {
		want := api.ErrArgument
		if n >= api.Normal && n <= api.Flipped270 {
			want = api.OK
		}
		for _, s := range []api.State{{Scale: 1}, showing(plain(3, 2))} {
			s.Transform = n
			checks(t, s, want)
		}
	}
}

// P16.1: no buffer, one, and more than one, whether they are valid or not.
func TestCheckBufferCount(t *testing.T) {
	good, wrong := plain(2, 3), api.Buffer{}
	for _, x := range []struct {
		l    []api.Buffer
		want api.Errno
	}{
		{nil, api.OK},
		{[]api.Buffer{}, api.OK},
		{[]api.Buffer{good}, api.OK},
		{[]api.Buffer{wrong}, api.ErrBuffer},
		{[]api.Buffer{good, good}, api.ErrArgument},
		{[]api.Buffer{good, wrong}, api.ErrArgument},
		{[]api.Buffer{wrong, good}, api.ErrArgument},
		{[]api.Buffer{wrong, wrong}, api.ErrArgument},
		{[]api.Buffer{good, good, good}, api.ErrArgument},
		{[]api.Buffer{good, good, good, good, good}, api.ErrArgument},
	} {
		checks(t, api.State{Scale: 1, Buffer: x.l}, x.want)
	}
	checks(t, api.State{Scale: 1, Buffer: []api.Buffer{good}[:0]}, api.OK)
}

// P16.1: buffers that are not valid, with each scale.
func TestCheckBuffer(t *testing.T) {
	for _, b := range bad() {
		for scale := range api.MaxScale {
			checks(t, but(showing(b), func(s *api.State) { s.Scale = scale + 1 }), api.ErrBuffer)
		}
	}
}

// P16.1: widths and heights that are multiples of the scale, and those that alone are not, for each transform.
func TestCheckMultiples(t *testing.T) {
	for scale := 1; scale <= api.MaxScale; scale++ {
		for w := 1; w <= 13; w++ {
			for h := 1; h <= 13; h++ {
				want := api.OK
				if w%scale != 0 || h%scale != 0 {
					want = api.ErrBuffer
				}
				for turn := range 8 {
					checks(t, but(showing(plain(w, h)), func(s *api.State) { s.Scale, s.Transform = scale, turn }), want)
				}
			}
		}
	}
	for _, x := range []struct {
		w, h, scale int
		want        api.Errno
	}{
		{most, most, 4, api.OK}, {most, most, 3, api.ErrBuffer}, {255, 255, 3, api.OK}, {255, most, 3, api.ErrBuffer}, {most, 255, 3, api.ErrBuffer},
		{most, 255, 2, api.ErrBuffer}, {255, most, 2, api.ErrBuffer}, {most, 254, 4, api.ErrBuffer}, {254, most, 4, api.ErrBuffer}, {most, 4, 4, api.OK}, {3, most, 1, api.OK},
	} {
		checks(t, but(showing(plain(x.w, x.h)), func(s *api.State) { s.Scale = x.scale }), x.want)
	}
}

// P16.1: all pairs of extreme numbers as the viewport, with a buffer and without one. A scale need not divide its sides.
func TestCheckDest(t *testing.T) {
	for _, x := range extremes {
		for _, y := range extremes {
			want := api.ErrRange
			if x == 0 && y == 0 || x >= 1 && x <= 256 && y >= 1 && y <= 256 {
				want = api.OK
			}
			for _, s := range []api.State{{Scale: 3}, but(showing(plain(3, 6)), func(s *api.State) { s.Scale = 3 })} {
				s.Dest = api.Point{X: x, Y: y}
				checks(t, s, want)
			}
		}
	}
}

// pointless returns n rectangles without pixels: valid ones, and ones that are not valid.
func pointless(n int) list {
	none := list{{}, box(0, 0, 0, 2), box(2, 2, 0, 0), box(3, 0, 3, 9), box(0, 0, limit+1, 1), box(-limit-1, 0, 2, 2), box(0, 0, 2, 1<<40)}
	return slices.Repeat(none, n/len(none)+1)[:n]
}

// regions returns lists of rectangles, and whether their canonical regions have at most MaxRects.
func regions() map[bool][]list {
	few, many := []list{nil, {}, {box(0, 0, 1, 1)}, {box(-limit, -limit, limit, limit)}}, []list{}
	for _, of := range []func(n int) list{columns, rows, steps} {
		few = append(few, of(mostRects-1), of(mostRects), append(of(mostRects), of(mostRects)...), append(of(mostRects), pointless(50)...), append(pointless(300), of(mostRects)...))
		many = append(many, of(mostRects+1), of(mostRects+2), of(600), append(pointless(20), of(mostRects+1)...), append(of(mostRects+1), of(mostRects+1)...))
	}
	slices.Reverse(few[len(few)-1]) // the order does not count
	adjacent := list{}
	for i := range 1000 {
		adjacent = append(adjacent, box(i, 0, i+1, 1))
	}
	covered := append(columns(400), box(0, 0, 800, 1))
	few = append(few, adjacent, covered, pointless(1000), slices.Repeat(list{box(1, 2, 3, 4)}, 1000))
	// Few rectangles that overlap may divide each other into many.
	crossed := append(columns(20), rows(20)...)
	for i := range crossed[:20] {
		crossed[i] = box(crossed[i].X0, -9, crossed[i].X1, 99)
	}
	many = append(many, crossed)
	return map[bool][]list{true: few, false: many}
}

// P16.1: the limit counts the rectangles of the canonical regions of Damage, Opaque and Input, the latter only if InputSet is true.
func TestCheckRegions(t *testing.T) {
	for ok, lists := range regions() {
		want := api.ErrLimit
		if ok {
			want = api.OK
		}
		for _, l := range lists {
			for _, s := range []api.State{{Scale: 1}, showing(plain(20, 9))} {
				checks(t, but(s, func(s *api.State) { s.Damage = l }), want)
				checks(t, but(s, func(s *api.State) { s.Opaque = l }), want)
				checks(t, but(s, func(s *api.State) { s.InputSet, s.Input = true, l }), want)
				checks(t, but(s, func(s *api.State) { s.Input = l }), api.OK)
				checks(t, but(s, func(s *api.State) { s.InputSet, s.Damage, s.Opaque, s.Input = true, l, l, l }), want)
			}
		}
	}
}

// P16.1: each region has a limit of its own; their rectangles are not added up.
func TestCheckRegionsTogether(t *testing.T) {
	s := api.State{Scale: 1, InputSet: true, Damage: columns(mostRects), Opaque: rows(mostRects), Input: steps(mostRects)}
	checks(t, s, api.OK)
	checks(t, but(s, func(s *api.State) { s.Damage = columns(mostRects + 1) }), api.ErrLimit)
	checks(t, but(s, func(s *api.State) { s.Opaque = rows(mostRects + 1) }), api.ErrLimit)
	checks(t, but(s, func(s *api.State) { s.Input = steps(mostRects + 1) }), api.ErrLimit)
}

// A wrong is a change that makes a state without errors one with an error.
type wrong struct {
	change func(s *api.State)
	e      api.Errno
}

// wrongs returns changes in the order of their errors. Each of them may be made together with any others.
func wrongs() []wrong {
	return []wrong{
		{func(s *api.State) { s.Scale = 0 }, api.ErrArgument},
		{func(s *api.State) { s.Transform = 8 }, api.ErrArgument},
		{func(s *api.State) { s.Buffer = append(slices.Clone(s.Buffer), plain(1, 1)) }, api.ErrArgument},
		{func(s *api.State) {
			s.Buffer = slices.Clone(s.Buffer)
			s.Buffer[0].Width++
		}, api.ErrBuffer},
		{func(s *api.State) { s.Dest.X = 0 }, api.ErrRange},
		{func(s *api.State) { s.Dest.Y = most + 1 }, api.ErrRange},
		{func(s *api.State) { s.Damage = columns(mostRects + 1) }, api.ErrLimit},
		{func(s *api.State) { s.Opaque = rows(mostRects + 1) }, api.ErrLimit},
		{func(s *api.State) { s.InputSet, s.Input = true, steps(mostRects+1) }, api.ErrLimit},
	}
}

// combined makes the changes whose bits are set, and returns the first error.
func combined(s api.State, set int) (api.State, api.Errno) {
	first := api.OK
	for i, w := range wrongs() {
		if set>>i&1 == 0 {
			continue
		}
		w.change(&s)
		if first == api.OK {
			first = w.e
		}
	}
	return s, first
}

// P16.1 and R1: all combinations of errors; the one that is named first counts, in every function.
func TestCheckOrder(t *testing.T) {
	for set := range 1 << len(wrongs()) {
		for _, s := range []api.State{one(), two()} {
			s, want := combined(s, set)
			checks(t, s, want)
			s.Set = allBits
			merges(t, state.Initial(), s, but(s, func(s *api.State) {
				s.Set = 0
				if want != api.OK {
					*s = api.State{}
				}
			}), want)
		}
	}
}

// P16.1: a size that the scale does not divide comes before a wrong viewport and too many rectangles, and behind a wrong transform.
func TestCheckOrderOfMultiples(t *testing.T) {
	for _, b := range []api.Buffer{plain(4, 3), plain(3, 4), plain(3, 3)} {
		s := api.State{Scale: 2, Buffer: []api.Buffer{b}, Dest: api.Point{X: -1, Y: 5}, Damage: columns(mostRects + 1)}
		checks(t, s, api.ErrBuffer)
		checks(t, but(s, func(s *api.State) { s.Transform = -1 }), api.ErrArgument)
		checks(t, but(s, func(s *api.State) { s.Scale = 1 }), api.ErrRange)
		checks(t, but(s, func(s *api.State) { s.Scale, s.Dest = 1, api.Point{X: 1, Y: 5} }), api.ErrLimit)
		checks(t, but(s, func(s *api.State) { s.Buffer = nil }), api.ErrRange)
	}
}

// P16.1: Set and Callbacks have no errors, whatever they are.
func TestCheckOthers(t *testing.T) {
	for _, set := range append(slices.Clone(extremes), allBits) {
		for _, l := range [][]uint32{nil, {0}, {5, 5, 5}, make([]uint32, 10*api.MaxObjects)} {
			s := one()
			s.Set, s.Callbacks = set, l
			checks(t, s, api.OK)
		}
	}
}

// P1: every function returns for all states, with numbers of the full range in every field.
func TestReturns(t *testing.T) {
	random := numbers()
	pick := func() int { return extremes[random.IntN(len(extremes))] }
	rects := func() (out list) {
		for range random.IntN(4) {
			out = append(out, box(pick(), pick(), pick(), pick()))
		}
		return out
	}
	last := state.Initial()
	for range 3000 {
		s := api.State{Set: pick(), Scale: pick(), Transform: pick(), Damage: rects(), Opaque: rects(), InputSet: pick() > 0, Input: rects(), Dest: api.Point{X: pick(), Y: pick()}, Callbacks: []uint32{uint32(pick())}}
		for range random.IntN(3) {
			s.Buffer = append(s.Buffer, api.Buffer{Width: pick(), Height: pick(), Pixels: make([]api.Pixel, random.IntN(20))})
		}
		compare(t, s)
		compareMerge(t, last, s)
		compareMerge(t, s, last)
		last = s
	}
	compare(t, api.State{})
	compareMerge(t, api.State{}, api.State{})
	compareMerge(t, api.State{}, api.State{Set: api.FieldScale, Scale: 1})
}

// R6: results depend only on the arguments, not on earlier calls.
func TestNoState(t *testing.T) {
	for range 3 {
		compare(t, one())
		compareMerge(t, one(), but(two(), func(s *api.State) { s.Set = allBits }))
		compare(t, but(two(), func(s *api.State) { s.Scale = 9 }))
		compare(t, two())
	}
}

// chance returns a random state, which is often without errors.
func chance(next func(n int) int) api.State {
	rare := func(n int) bool { return next(40) == n }
	s := api.State{Set: next(512), Scale: 1 << next(3), Transform: next(8), Callbacks: make([]uint32, next(4))}
	for i := range s.Callbacks {
		s.Callbacks[i] = uint32(next(5))
	}
	rects := func() list {
		if rare(0) {
			return columns(mostRects + next(2))
		}
		l := make(list, next(6))
		for i := range l {
			x, y := next(16)-3, next(16)-3
			l[i] = box(x, y, x+next(7), y+next(7))
			if rare(0) {
				l[i].X1 = limit + next(2)
			}
		}
		return l
	}
	s.Damage, s.Opaque, s.InputSet, s.Input = rects(), rects(), next(2) == 0, rects()
	if next(4) > 0 {
		b := plain(4*(next(3)+1), 4*(next(3)+1))
		for i := range b.Pixels {
			b.Pixels[i] = api.Pixel{R: uint8(i), A: 255, B: uint8(next(256))}
		}
		s.Buffer = []api.Buffer{b}
	}
	if next(3) == 0 {
		s.Dest = api.Point{X: next(12) + 1, Y: next(12) + 1}
	}
	return spoiled(s, next)
}

// spoiled returns a state with a rare error.
func spoiled(s api.State, next func(n int) int) api.State {
	switch next(12) {
	case 0:
		s.Scale = next(7) - 1
	case 1:
		s.Transform = next(11) - 1
	case 2:
		s.Buffer = append(s.Buffer, plain(next(4)+1, next(4)+1))
	case 3:
		s.Buffer = []api.Buffer{plain(next(12)+1, next(12)+1)}
	case 4:
		s.Dest.Y = next(300) - 20
	case 5:
		s.Buffer = []api.Buffer{{Width: next(9), Height: next(9), Pixels: make([]api.Pixel, next(60))}}
	}
	return s
}

// P16.1 to P16.5: random states, each merged into what the ones before it left, compared with their definitions.
func TestRandom(t *testing.T) {
	random := numbers()
	current := state.Initial()
	changes, failures := 0, 0
	for range 5000 {
		s := chance(random.IntN)
		compare(t, s)
		compareMerge(t, current, s)
		next, e := mergedOf(current, s)
		if e != api.OK {
			failures++
			continue
		}
		changes++
		if current = next; len(current.Callbacks) > 20 {
			current.Callbacks = nil
		}
		compare(t, current)
	}
	if changes < 1000 || failures < 500 {
		t.Errorf("%d merges, %d errors", changes, failures)
	}
}

// FuzzStates compares all functions with their definitions, for two states that are read from bytes.
func FuzzStates(f *testing.F) {
	f.Add([]byte{}, []byte{255, 2, 7})
	f.Add([]byte("a state that is current, with a buffer and damage"), []byte("one that is pending and sets some of its fields"))
	f.Add([]byte{0, 1, 2, 3, 4, 5, 6, 7, 8, 9, 10, 11, 12, 13, 14, 15}, []byte{127, 255, 63, 31, 15, 7, 3, 1, 127, 255, 63, 31, 15, 7, 3, 1})
	f.Fuzz(func(t *testing.T, p, q []byte) {
		current, pending := decoded(p), decoded(q)
		compare(t, current)
		compare(t, pending)
		compareMerge(t, current, pending)
		compareMerge(t, pending, current)
	})
}

// decoded returns the state that chance makes of bytes instead of random numbers; behind their end they are 0.
func decoded(data []byte) api.State {
	return chance(func(n int) int {
		if len(data) == 0 {
			return 0
		}
		c := int(data[0])
		data = data[1:]
		if n > 256 && len(data) > 0 {
			c += int(data[0]) << 8
		}
		return c % n
	})
}
