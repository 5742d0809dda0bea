package state_test

import (
	"slices"
	"testing"

	"compositor/api"
	"compositor/state"
)

// P16.2: without a bit of Set, the current state stays, without its damage and with the Set 0.
func TestMergeNothing(t *testing.T) {
	for _, s := range []api.State{state.Initial(), one(), two()} {
		want := but(s, func(s *api.State) { s.Damage = nil })
		for _, pending := range []api.State{{}, state.Initial(), one(), two(), s} {
			merges(t, s, pending, want, api.OK)
			merges(t, but(s, func(s *api.State) { s.Set = allBits }), pending, want, api.OK)
		}
		checks(t, want, api.OK)
	}
}

// singles returns, for each bit alone, what one() becomes with the fields of two().
func singles() map[int]api.State {
	other := two()
	s := but(one(), func(s *api.State) { s.Damage = nil })
	return map[int]api.State{
		api.FieldBuffer:    but(s, func(s *api.State) { s.Buffer = other.Buffer }),
		api.FieldScale:     but(s, func(s *api.State) { s.Scale = 4 }),
		api.FieldTransform: but(s, func(s *api.State) { s.Transform = api.Flipped }),
		api.FieldDamage:    but(s, func(s *api.State) { s.Damage = list{box(1, 1, 3, 2), box(-4, 0, 1, 9)} }),
		api.FieldOpaque:    but(s, func(s *api.State) { s.Opaque = list{box(1, 1, 2, 2)} }),
		api.FieldInput:     but(s, func(s *api.State) { s.InputSet, s.Input = true, list{box(0, 0, 2, 2), box(1, 1, 3, 3)} }),
		api.FieldViewport:  but(s, func(s *api.State) { s.Dest = api.Point{X: 3, Y: 2} }),
		api.FieldCallback:  but(s, func(s *api.State) { s.Callbacks = []uint32{7, 8, 9, 7, 1<<32 - 1} }),
	}
}

// P16.2: each bit alone replaces its own fields by hand and leaves all others as they are.
func TestMergeSingleBits(t *testing.T) {
	cases := singles()
	if len(cases) != 8 {
		t.Fatal(len(cases))
	}
	for bit, want := range cases {
		pending := but(two(), func(s *api.State) { s.Set = bit })
		if bit == api.FieldScale { // the buffer of one() does not have a multiple of 4 rows
			merges(t, one(), pending, api.State{}, api.ErrBuffer)
			merges(t, but(one(), func(s *api.State) { s.Buffer = two().Buffer }), pending, but(want, func(s *api.State) { s.Buffer = two().Buffer }), api.OK)
			merges(t, but(one(), func(s *api.State) { s.Buffer = nil }), pending, but(want, func(s *api.State) { s.Buffer = nil }), api.OK)
			continue
		}
		merges(t, one(), pending, want, api.OK)
	}
}

// P16.2: all sets of bits, pairs among them, with the two states in both orders.
func TestMergeBits(t *testing.T) {
	for set := range allBits + 1 {
		for _, current := range []api.State{state.Initial(), one(), two()} {
			for _, pending := range []api.State{{}, state.Initial(), one(), two()} {
				compareMerge(t, current, but(pending, func(s *api.State) { s.Set = set }))
			}
		}
	}
}

// P16.2: all bits replace everything but the callbacks.
func TestMergeAll(t *testing.T) {
	pending := but(two(), func(s *api.State) { s.Set = allBits })
	merges(t, state.Initial(), pending, two(), api.OK)
	merges(t, one(), pending, but(two(), func(s *api.State) { s.Callbacks = []uint32{7, 8, 9, 7, 1<<32 - 1} }), api.OK)
	merges(t, two(), but(state.Initial(), func(s *api.State) { s.Set = allBits }), but(state.Initial(), func(s *api.State) { s.Callbacks = two().Callbacks }), api.OK)
	merges(t, two(), api.State{Set: allBits}, api.State{}, api.ErrArgument) // the scale 0
}

// P16.2: other bits of Set are ignored, also together with those of fields.
func TestMergeOtherBits(t *testing.T) {
	for _, other := range []int{allBits + 1, 1 << 9, 1 << 31, 1 << 32, 1<<62 + 1<<40, -1 << 63, -1 << 8} {
		merges(t, one(), but(two(), func(s *api.State) { s.Set = other }), but(one(), func(s *api.State) { s.Damage = nil }), api.OK)
		for set := range allBits + 1 {
			pending := but(two(), func(s *api.State) { s.Set = set })
			want, e := mergedOf(one(), pending)
			merges(t, one(), but(pending, func(s *api.State) { s.Set += other }), want, e)
		}
	}
	merges(t, state.Initial(), but(two(), func(s *api.State) { s.Set = -1 }), two(), api.OK)
}

// P16.2: callbacks of both states, of one and of none; with the bit they are appended, whatever they are, and without it they are ignored.
func TestMergeCallbacks(t *testing.T) {
	long := make([]uint32, 3*api.MaxObjects)
	for _, x := range []struct{ current, pending, want []uint32 }{
		{nil, nil, nil},
		{[]uint32{1, 2}, nil, []uint32{1, 2}},
		{[]uint32{1, 2}, []uint32{}, []uint32{1, 2}},
		{nil, []uint32{3}, []uint32{3}},
		{[]uint32{}, []uint32{3, 4}, []uint32{3, 4}},
		{[]uint32{2, 1}, []uint32{4, 3}, []uint32{2, 1, 4, 3}},
		{[]uint32{5, 5}, []uint32{5}, []uint32{5, 5, 5}},
		{[]uint32{0}, []uint32{0, 1<<32 - 1}, []uint32{0, 0, 1<<32 - 1}},
		{long, []uint32{1}, append(slices.Clone(long), 1)},
		{[]uint32{1}, long, append([]uint32{1}, long...)},
	} {
		current := but(one(), func(s *api.State) { s.Damage, s.Callbacks = nil, x.current })
		pending := api.State{Set: api.FieldCallback, Callbacks: x.pending}
		merges(t, current, pending, but(current, func(s *api.State) { s.Callbacks = x.want }), api.OK)
		for set := range allBits + 1 {
			if set&api.FieldCallback == 0 {
				pending := but(one(), func(s *api.State) { s.Set, s.Damage, s.Callbacks = set, nil, x.pending })
				merges(t, current, pending, current, api.OK)
			}
		}
	}
}

// P16.2: the damage of the current state is gone whether or not the pending state sets it, and whatever it was.
func TestMergeDamage(t *testing.T) {
	for _, old := range []list{nil, {box(0, 0, 9, 9)}, columns(mostRects), columns(mostRects + 1), pointless(9)} {
		current := but(one(), func(s *api.State) { s.Damage = old })
		clean := but(one(), func(s *api.State) { s.Damage = nil })
		merges(t, current, api.State{Damage: list{box(1, 1, 2, 2)}}, clean, api.OK)
		merges(t, current, api.State{Set: api.FieldDamage}, clean, api.OK)
		for _, fresh := range []list{{box(1, 1, 2, 2)}, {box(3, 3, 1, 1), box(5, 5, 6, 6), box(5, 5, 6, 6)}, columns(mostRects), pointless(9), {box(-9, -9, 99, 99), {}, {}}} {
			merges(t, current, api.State{Set: api.FieldDamage, Damage: fresh}, but(clean, func(s *api.State) { s.Damage = fresh }), api.OK)
		}
	}
}

// P16.2: InputSet and Input belong to the same bit, and each of them is replaced also where the other one is not there.
func TestMergeInput(t *testing.T) {
	lists := []list{nil, {box(0, 0, 1, 1)}, {box(2, 2, 3, 3), box(2, 2, 3, 3), {}}}
	for _, oldSet := range []bool{false, true} {
		for _, newSet := range []bool{false, true} {
			for _, old := range lists {
				for _, fresh := range lists {
					current := but(one(), func(s *api.State) { s.Damage, s.InputSet, s.Input = nil, oldSet, old })
					want := but(current, func(s *api.State) { s.InputSet, s.Input = newSet, fresh })
					merges(t, current, api.State{Set: api.FieldInput, InputSet: newSet, Input: fresh}, want, api.OK)
					merges(t, current, api.State{Set: allBits &^ api.FieldInput, Scale: 1, InputSet: newSet, Input: fresh},
						api.State{Scale: 1, InputSet: oldSet, Input: old, Callbacks: current.Callbacks}, api.OK)
				}
			}
		}
	}
	// Input may have too many rectangles where InputSet does not make it an input region.
	many := columns(mostRects + 1)
	merges(t, state.Initial(), api.State{Set: api.FieldInput, Input: many}, api.State{Scale: 1, Input: many}, api.OK)
	merges(t, state.Initial(), api.State{Set: api.FieldInput, InputSet: true, Input: many}, api.State{}, api.ErrLimit)
	merges(t, api.State{Scale: 1, Input: many}, api.State{Set: api.FieldInput, InputSet: true}, api.State{Scale: 1, InputSet: true}, api.OK)
}

// P16.2: a buffer is replaced as a whole, or removed.
func TestMergeBuffer(t *testing.T) {
	current := but(one(), func(s *api.State) { s.Damage = nil })
	for _, l := range [][]api.Buffer{nil, {}, {plain(2, 2)}, {plain(most, most)}, {noisy(numbers(), 6, 10)}} {
		merges(t, current, api.State{Set: api.FieldBuffer, Buffer: l}, but(current, func(s *api.State) { s.Buffer = l }), api.OK)
		merges(t, but(current, func(s *api.State) { s.Buffer = nil }), api.State{Set: api.FieldBuffer, Buffer: l}, but(current, func(s *api.State) { s.Buffer = l }), api.OK)
	}
}

// bits returns the bit of the field that each of wrongs() changes.
func bits() []int {
	return []int{api.FieldScale, api.FieldTransform, api.FieldBuffer, api.FieldBuffer, api.FieldViewport, api.FieldViewport, api.FieldDamage, api.FieldOpaque, api.FieldInput}
}

// P16.2: what is wrong in the pending state counts only if its bit is set; then nothing is merged.
func TestMergePendingErrors(t *testing.T) {
	current := but(one(), func(s *api.State) { s.Damage = nil })
	for i, w := range wrongs() {
		for set := range allBits + 1 {
			pending := but(one(), w.change)
			pending.Set = set
			if set&bits()[i] != 0 {
				merges(t, current, pending, api.State{}, w.e)
				continue
			}
			compareMerge(t, current, pending)
			if _, e := state.Merge(current, pending); e != api.OK {
				t.Fatalf("%d, Set %d: %d", i, set, e)
			}
		}
	}
}

// P16.2: what is wrong in the current state counts unless the pending state replaces it. The current damage never counts.
func TestMergeCurrentErrors(t *testing.T) {
	for i, w := range wrongs() {
		current := but(one(), w.change)
		for set := range allBits + 1 {
			want := w.e
			if set&bits()[i] != 0 || bits()[i] == api.FieldDamage {
				want = api.OK
			}
			pending := but(one(), func(s *api.State) { s.Set = set })
			compareMerge(t, current, pending)
			if _, e := state.Merge(current, pending); e != want {
				t.Fatalf("%d, Set %d: %d, want %d", i, set, e, want)
			}
		}
	}
}

// P16.2 and R1: errors from both states; the one that Check names first counts.
func TestMergeErrorOrder(t *testing.T) {
	for first := range wrongs() {
		for second := range wrongs() {
			set := 1<<first | 1<<second
			s, want := combined(one(), set)
			merges(t, s, but(s, func(s *api.State) { s.Set = allBits }), api.State{}, want)
			current, pending := but(one(), wrongs()[first].change), but(one(), wrongs()[second].change)
			pending.Set = bits()[second]
			compareMerge(t, current, pending)
		}
	}
	merges(t, but(one(), func(s *api.State) { s.Opaque = columns(mostRects + 1) }), api.State{Set: api.FieldViewport, Dest: api.Point{X: 1}}, api.State{}, api.ErrRange)
	merges(t, but(one(), func(s *api.State) { s.Dest.X = -1 }), api.State{Set: api.FieldScale, Scale: 4}, api.State{}, api.ErrBuffer)
	merges(t, but(one(), func(s *api.State) { s.Scale = 3 }), api.State{Set: api.FieldTransform, Transform: 9}, api.State{}, api.ErrArgument)
}

// P16.2: a scale and a buffer that fit only together: either both of them are merged, or nothing is.
func TestMergeTogether(t *testing.T) {
	current := but(showing(plain(6, 2)), func(s *api.State) { s.Scale = 2 })
	pending := api.State{Scale: 3, Buffer: []api.Buffer{plain(3, 9)}}
	for set, want := range map[int]api.Errno{api.FieldScale: api.ErrBuffer, api.FieldBuffer: api.ErrBuffer, api.FieldScale | api.FieldBuffer: api.OK, 0: api.OK} {
		pending.Set = set
		compareMerge(t, current, pending)
		if _, e := state.Merge(current, pending); e != want {
			t.Errorf("Set %d: %d, want %d", set, e, want)
		}
	}
	both, e := state.Merge(current, but(pending, func(s *api.State) { s.Set = api.FieldScale | api.FieldBuffer }))
	if w, h := state.Size(both); e != api.OK || w != 1 || h != 3 {
		t.Errorf("%d, %d, %d", w, h, e)
	}
}

// P16.2: merging fields one after the other is merging them at once, except that the damage of all but the last merge is gone.
func TestMergeSequence(t *testing.T) {
	current := state.Initial()
	for _, bit := range []int{api.FieldBuffer, api.FieldScale, api.FieldTransform, api.FieldDamage, api.FieldOpaque, api.FieldInput, api.FieldViewport, api.FieldCallback} {
		next, e := state.Merge(current, but(two(), func(s *api.State) { s.Set = bit }))
		if e != api.OK {
			t.Fatal(bit, e)
		}
		current = next
	}
	if want := but(two(), func(s *api.State) { s.Damage = nil }); !same(current, want) {
		t.Error(brief(current))
	}
}

// P16.5: copies of all states, with errors or without.
func TestClone(t *testing.T) {
	for set := range 1 << len(wrongs()) {
		s, _ := combined(two(), set)
		s.Set = set
		if c := state.Clone(s); !same(c, s) {
			t.Fatalf("%v: %v", brief(s), brief(c))
		}
	}
	for _, s := range []api.State{{}, {Set: -1 << 63, Scale: -5, Transform: 1 << 62, Dest: api.Point{X: -1, Y: 1 << 40}}, {Buffer: bad()}, {Input: columns(3)}, {InputSet: true, Damage: pointless(900)},
		{Buffer: []api.Buffer{plain(2, 2), {}, plain(3, 3)}}, {Callbacks: []uint32{0, 0, 1}}} {
		if c := state.Clone(s); !same(c, s) {
			t.Fatalf("%v: %v", brief(s), brief(c))
		}
	}
}

// grown returns a copy of a list with marks in its spare capacity.
func grown[T any](l []T, mark T) []T {
	return append(slices.Clone(l), mark, mark, mark)[:len(l)]
}

// roomy returns a copy of a state with marks in the spare capacity of all slices.
func roomy(s api.State) api.State {
	s.Buffer = grown(s.Buffer, api.Buffer{Width: 77, Pixels: grown([]api.Pixel{{R: 9}}, api.Pixel{R: 8})})
	for i := range s.Buffer {
		s.Buffer[i].Pixels = grown(s.Buffer[i].Pixels, api.Pixel{R: 7, A: 6})
	}
	s.Damage, s.Opaque, s.Input = grown(s.Damage, box(1, 2, 3, 4)), grown(s.Opaque, box(2, 3, 4, 5)), grown(s.Input, box(3, 4, 5, 6))
	s.Callbacks = grown(s.Callbacks, 77)
	return s
}

// reached returns a copy of all that can be reached through a state, with the spare capacity of its slices.
func reached(s api.State) api.State {
	s.Buffer = slices.Clone(s.Buffer[:cap(s.Buffer)])
	for i, b := range s.Buffer {
		s.Buffer[i].Pixels = slices.Clone(b.Pixels[:cap(b.Pixels)])
	}
	s.Damage, s.Opaque, s.Input = slices.Clone(s.Damage[:cap(s.Damage)]), slices.Clone(s.Opaque[:cap(s.Opaque)]), slices.Clone(s.Input[:cap(s.Input)])
	s.Callbacks = slices.Clone(s.Callbacks[:cap(s.Callbacks)])
	return s
}

// fill overwrites everything that can be reached through a slice.
func fill[T any](l []T, v T) {
	for i := range l[:cap(l)] {
		l[:cap(l)][i] = v
	}
}

// parts returns functions each of which overwrites the memory of one slice of a state.
func parts(s api.State) []func() {
	out := []func(){
		func() { fill(s.Damage, box(-5, -5, -4, -4)) },
		func() { fill(s.Opaque, box(-5, -5, -4, -4)) },
		func() { fill(s.Input, box(-5, -5, -4, -4)) },
		func() { fill(s.Callbacks, 55) },
	}
	for _, b := range s.Buffer[:cap(s.Buffer)] {
		out = append(out, func() { fill(b.Pixels, api.Pixel{R: 55, A: 55}) })
	}
	return append(out, func() { fill(s.Buffer, api.Buffer{Width: 55}) })
}

func spoil(s api.State) {
	for _, overwrite := range parts(s) {
		overwrite()
	}
}

// memory checks that a function of states that returns a state neither modifies nor keeps them, and that the result is new memory.
func memory(t *testing.T, call func(l []api.State) api.State, l ...api.State) {
	t.Helper()
	args := make([]api.State, len(l))
	before := make([]api.State, len(l))
	for i, s := range l {
		args[i] = roomy(s)
		before[i] = reached(args[i])
	}
	unchanged := func(what string) {
		t.Helper()
		for i, s := range args {
			if !same(reached(s), before[i]) {
				t.Fatalf("%s: argument %d is %v, was %v", what, i, brief(reached(s)), brief(before[i]))
			}
		}
	}
	want := reached(clipped(call(args)))
	unchanged("after the call")
	spoil(call(args))
	unchanged("after changes of the result")
	for i := range parts(call(args)) {
		separate(t, call(args), i)
	}
	got := call(args)
	for _, s := range args {
		spoil(s)
	}
	if !same(got, want) {
		t.Fatalf("after changes of the arguments: %v, want %v", brief(got), brief(want))
	}
}

// clipped returns a state whose slices end with their lengths.
func clipped(s api.State) api.State {
	s.Buffer = slices.Clone(s.Buffer)
	for i, b := range s.Buffer {
		s.Buffer[i].Pixels = slices.Clip(b.Pixels)
	}
	s.Buffer = slices.Clip(s.Buffer)
	s.Damage, s.Opaque, s.Input, s.Callbacks = slices.Clip(s.Damage), slices.Clip(s.Opaque), slices.Clip(s.Input), slices.Clip(s.Callbacks)
	return s
}

// separate checks that overwriting one part of a state does not change the others.
func separate(t *testing.T, s api.State, part int) {
	t.Helper()
	before := reached(clipped(s))
	parts(s)[part]()
	after := reached(clipped(s))
	changed := 0
	for _, differs := range []bool{!slices.Equal(before.Damage, after.Damage), !slices.Equal(before.Opaque, after.Opaque), !slices.Equal(before.Input, after.Input),
		!slices.Equal(before.Callbacks, after.Callbacks), !slices.EqualFunc(before.Buffer, after.Buffer, sameBuffer)} {
		if differs {
			changed++
		}
	}
	if changed > 1 {
		t.Fatalf("part %d shares memory with another one: %v, was %v", part, brief(after), brief(before))
	}
}

// tangled returns a state whose regions, and whose buffers, are the same memory, so that it is not roomy.
func tangled() api.State {
	l := list{box(0, 0, 1, 1), box(2, 2, 3, 3)}
	b := plain(4, 4)
	return api.State{Scale: 1, Buffer: []api.Buffer{b, b}, Damage: l, Opaque: l, InputSet: true, Input: l[:1]}
}

// R3 and P16.5: Clone shares no memory with the state, nor between parts of the copy.
func TestMemoryClone(t *testing.T) {
	call := func(l []api.State) api.State { return state.Clone(l[0]) }
	for set := range 1 << len(wrongs()) {
		s, _ := combined(one(), set)
		memory(t, call, s)
	}
	memory(t, call, api.State{})
	memory(t, call, api.State{Buffer: []api.Buffer{plain(1, 2), {}, plain(3, 1)}})
	memory(t, call, but(two(), func(s *api.State) { s.InputSet = false }))
	c := state.Clone(tangled())
	for i := range parts(c) {
		separate(t, state.Clone(tangled()), i)
	}
	fill(c.Buffer[0].Pixels, api.Pixel{})
	if !sameBuffer(c.Buffer[1], plain(4, 4)) {
		t.Error("the buffers of a copy share memory")
	}
}

// R3: Merge neither modifies nor keeps the states, and returns new memory, whatever it merges, and for the same state twice.
func TestMemoryMerge(t *testing.T) {
	call := func(l []api.State) api.State {
		out, _ := state.Merge(l[0], l[1])
		return out
	}
	for set := range allBits + 1 {
		memory(t, call, one(), but(two(), func(s *api.State) { s.Set = set }))
	}
	twice := func(l []api.State) api.State {
		out, _ := state.Merge(l[0], l[0])
		return out
	}
	for set := range allBits + 1 {
		memory(t, twice, but(two(), func(s *api.State) { s.Set = set }))
	}
	bare := func() api.State { return api.State{Scale: 1, Callbacks: []uint32{}} }
	memory(t, call, bare(), api.State{Set: allBits, Scale: 1})
	memory(t, call, bare(), api.State{Set: api.FieldCallback, Callbacks: []uint32{5, 6}})
	memory(t, call, two(), api.State{Set: api.FieldCallback})
	s := but(tangled(), func(s *api.State) { s.Set, s.Buffer = allBits, s.Buffer[:1] })
	for i := range 6 {
		out, e := state.Merge(s, s)
		if e != api.OK {
			t.Fatal(e)
		}
		separate(t, out, i)
	}
}

// R2 and R3: calls that fail do not change their arguments either.
func TestMemoryErrors(t *testing.T) {
	for _, w := range wrongs() {
		current, pending := roomy(one()), roomy(but(one(), w.change))
		pending.Set = allBits
		oldCurrent, oldPending := reached(current), reached(pending)
		if s, e := state.Merge(current, pending); e != w.e || !same(s, api.State{}) {
			t.Fatal(brief(s), e)
		}
		state.Check(pending)
		state.Size(pending)
		state.Content(pending)
		state.DamageRegion(pending)
		state.InputRegion(pending)
		if !same(reached(current), oldCurrent) || !same(reached(pending), oldPending) {
			t.Fatalf("%v: an argument changed", w.e)
		}
	}
}
