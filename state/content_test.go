package state_test

import (
	"slices"
	"testing"

	"compositor/api"
	"compositor/state"
)

// P16.3: sizes by hand, of each transform, with a scale and a viewport alone and together. The viewport counts as it is.
func TestSize(t *testing.T) {
	for turn := range 8 {
		for _, x := range []struct {
			w, h, scale int
			dest        api.Point
			even, odd   api.Point // the sizes for even and for odd transforms
		}{
			{4, 2, 1, api.Point{}, api.Point{X: 4, Y: 2}, api.Point{X: 2, Y: 4}},
			{4, 2, 2, api.Point{}, api.Point{X: 2, Y: 1}, api.Point{X: 1, Y: 2}},
			{12, 24, 3, api.Point{}, api.Point{X: 4, Y: 8}, api.Point{X: 8, Y: 4}},
			{12, 24, 4, api.Point{}, api.Point{X: 3, Y: 6}, api.Point{X: 6, Y: 3}},
			{4, 4, 4, api.Point{}, api.Point{X: 1, Y: 1}, api.Point{X: 1, Y: 1}},
			{1, 1, 1, api.Point{}, api.Point{X: 1, Y: 1}, api.Point{X: 1, Y: 1}},
			{most, 1, 1, api.Point{}, api.Point{X: most, Y: 1}, api.Point{X: 1, Y: most}},
			{most, 4, 4, api.Point{}, api.Point{X: 64, Y: 1}, api.Point{X: 1, Y: 64}},
			{most, most, 1, api.Point{}, api.Point{X: most, Y: most}, api.Point{X: most, Y: most}},
			{4, 2, 1, api.Point{X: 5, Y: 7}, api.Point{X: 5, Y: 7}, api.Point{X: 5, Y: 7}},
			{4, 2, 2, api.Point{X: 5, Y: 7}, api.Point{X: 5, Y: 7}, api.Point{X: 5, Y: 7}},
			{12, 24, 4, api.Point{X: 1, Y: most}, api.Point{X: 1, Y: most}, api.Point{X: 1, Y: most}},
			{most, most, 4, api.Point{X: 1, Y: 1}, api.Point{X: 1, Y: 1}, api.Point{X: 1, Y: 1}},
		} {
			s := api.State{Scale: x.scale, Transform: turn, Dest: x.dest, Buffer: []api.Buffer{plain(x.w, x.h)}}
			want := x.even
			if turn%2 == 1 {
				want = x.odd
			}
			if w, h := state.Size(s); w != want.X || h != want.Y {
				t.Errorf("%v with the transform %d: %d, %d", x, turn, w, h)
			}
			compare(t, s)
		}
	}
}

// P16.3: without a buffer, the size is 0, 0 and there are no contents, whatever the other fields are.
func TestNoBuffer(t *testing.T) {
	for turn := range 8 {
		for scale := range api.MaxScale {
			for _, dest := range []api.Point{{}, {X: 5, Y: 6}} {
				s := but(one(), func(s *api.State) {
					s.Buffer, s.Scale, s.Transform, s.Dest = nil, scale+1, turn, dest
				})
				nothing(t, s, api.OK)
				nothing(t, but(s, func(s *api.State) { s.InputSet = false }), api.OK)
				nothing(t, but(s, func(s *api.State) { s.Buffer = []api.Buffer{} }), api.OK)
				nothing(t, but(s, func(s *api.State) { s.Damage, s.Input = nil, nil }), api.OK)
			}
		}
	}
}

// nothing checks that a state has no size, no contents and no regions, and that the regions are returned with an error.
func nothing(t *testing.T, s api.State, want api.Errno) {
	t.Helper()
	if w, h := state.Size(s); w != 0 || h != 0 {
		t.Fatalf("%v: %d, %d", brief(s), w, h)
	}
	if b, ok := state.Content(s); ok || !sameBuffer(b, api.Buffer{}) {
		t.Fatalf("%v: %v, %t", brief(s), briefBuffer(b), ok)
	}
	if l, e := state.DamageRegion(s); len(l) != 0 || e != want {
		t.Fatalf("%v: damage %v, %d", brief(s), l, e)
	}
	if l, e := state.InputRegion(s); len(l) != 0 || e != want {
		t.Fatalf("%v: input %v, %d", brief(s), l, e)
	}
}

// P16.3, P16.4 and R2: a state that Check rejects has the size 0, 0, no contents, and no regions but the error; also for an error that has nothing to do with the result.
func TestRejected(t *testing.T) {
	for set := 1; set < 1<<len(wrongs()); set++ {
		s, e := combined(one(), set)
		nothing(t, s, e)
		nothing(t, but(s, func(s *api.State) { s.Damage = append(list{box(0, 0, 1, 1)}, s.Damage...) }), e)
	}
	for _, b := range bad() {
		nothing(t, showing(b), api.ErrBuffer)
		nothing(t, but(showing(b), func(s *api.State) { s.Dest = api.Point{X: 4, Y: 4} }), api.ErrBuffer)
	}
	// The transform does not change which numbers the scale must divide.
	for turn := range 8 {
		for _, b := range []api.Buffer{plain(4, 3), plain(3, 4)} {
			s := api.State{Scale: 2, Transform: turn, Buffer: []api.Buffer{b}}
			nothing(t, s, api.ErrBuffer)
			nothing(t, but(s, func(s *api.State) { s.Dest = api.Point{X: 2, Y: 2} }), api.ErrBuffer)
		}
	}
}

// P16.3: contents by hand: the transform is undone, and then the image is scaled to the size.
func TestContent(t *testing.T) {
	small, wide := paint("ABC", "DEF"), paint("ABCD", "EFGH")
	for _, x := range []struct {
		b           api.Buffer
		scale, turn int
		dest        api.Point
		want        api.Buffer
	}{
		{b: small, scale: 1, turn: api.Normal, want: small},
		{b: small, scale: 1, turn: api.Rotate90, want: paint("DA", "EB", "FC")},
		{b: small, scale: 1, turn: api.Rotate180, want: paint("FED", "CBA")},
		{b: small, scale: 1, turn: api.Rotate270, want: paint("CF", "BE", "AD")},
		{b: small, scale: 1, turn: api.Flipped, want: paint("CBA", "FED")},
		{b: small, scale: 1, turn: api.Flipped90, want: paint("AD", "BE", "CF")},
		{b: small, scale: 1, turn: api.Flipped180, want: paint("DEF", "ABC")},
		{b: small, scale: 1, turn: api.Flipped270, want: paint("FC", "EB", "DA")},
		{b: wide, scale: 2, turn: api.Normal, want: paint("FH")},
		{b: wide, scale: 2, turn: api.Rotate90, want: paint("B", "D")},
		{b: wide, scale: 2, turn: api.Rotate180, want: paint("CA")},
		{b: wide, scale: 2, turn: api.Rotate270, want: paint("G", "E")},
		{b: wide, scale: 2, turn: api.Flipped, want: paint("GE")},
		{b: wide, scale: 1, turn: api.Normal, dest: api.Point{X: 5, Y: 5}, want: paint("ABCCD", "ABCCD", "EFGGH", "EFGGH", "EFGGH")},
		{b: wide, scale: 2, turn: api.Normal, dest: api.Point{X: 5, Y: 5}, want: paint("ABCCD", "ABCCD", "EFGGH", "EFGGH", "EFGGH")},
		{b: wide, scale: 1, turn: api.Normal, dest: api.Point{X: 2, Y: 2}, want: paint("BD", "FH")},
		{b: wide, scale: 1, turn: api.Rotate90, dest: api.Point{X: 1, Y: 1}, want: paint("C")},
		{b: wide, scale: 2, turn: api.Rotate90, dest: api.Point{X: 4, Y: 2}, want: paint("FFBB", "HHDD")},
		{b: wide, scale: 1, turn: api.Flipped90, dest: api.Point{X: 2, Y: 8}, want: paint("AE", "AE", "BF", "BF", "CG", "CG", "DH", "DH")},
		{b: paint("A"), scale: 1, turn: api.Rotate270, dest: api.Point{X: 3, Y: 1}, want: paint("AAA")},
	} {
		s := api.State{Scale: x.scale, Transform: x.turn, Dest: x.dest, Buffer: []api.Buffer{x.b}}
		if got, ok := state.Content(s); !ok || !sameBuffer(got, x.want) {
			t.Errorf("scale %d, transform %d, %v: %v, %t", x.scale, x.turn, x.dest, briefBuffer(got), ok)
		}
		compare(t, s)
	}
}

// P16.3: contents pixel by pixel, of random buffers of many sizes, with each transform, scale and some viewports; they have the size of the surface.
func TestContentPixels(t *testing.T) {
	random := numbers()
	for _, b := range []api.Buffer{noisy(random, 12, 24), noisy(random, 36, 12), noisy(random, most, 12), noisy(random, 12, 252), noisy(random, 60, 48)} {
		for turn := range 8 {
			for scale := 1; scale <= api.MaxScale; scale++ {
				for _, dest := range []api.Point{{}, {X: 1, Y: 1}, {X: 7, Y: 31}, {X: 12, Y: 24}, {X: 24, Y: 12}, {X: most, Y: 2}} {
					s := api.State{Scale: scale, Transform: turn, Dest: dest, Buffer: []api.Buffer{b}}
					compare(t, s)
					w, h := state.Size(s)
					if got, ok := state.Content(s); scale != 3 && (!ok || got.Width != w || got.Height != h || len(got.Pixels) != w*h) {
						t.Fatalf("%v: %v, %t, the size is %d, %d", brief(s), briefBuffer(got), ok, w, h)
					}
				}
			}
		}
	}
	for turn := range 8 {
		compare(t, api.State{Scale: 1, Transform: turn, Buffer: []api.Buffer{noisy(random, most, most)}})
		compare(t, api.State{Scale: 4, Transform: turn, Buffer: []api.Buffer{noisy(random, most, most)}, Dest: api.Point{X: most, Y: most}})
	}
}

// P16.4: damage and input by hand, in a surface of 4 by 3 pixels.
func TestRegions(t *testing.T) {
	all := box(0, 0, 4, 3)
	for _, x := range []struct {
		name    string
		l, want list
	}{
		{"nothing", nil, nil},
		{"an empty list", list{}, nil},
		{"empty rectangles", pointless(14), nil},
		{"one pixel", list{box(1, 1, 2, 2)}, list{box(1, 1, 2, 2)}},
		{"the corners", list{box(3, 2, 4, 3), box(0, 0, 1, 1), box(0, 2, 1, 3), box(3, 0, 4, 1)}, list{box(0, 0, 1, 1), box(3, 0, 4, 1), box(0, 2, 1, 3), box(3, 2, 4, 3)}},
		{"the surface", list{all}, list{all}},
		{"more than the surface", list{box(-9, -9, 99, 99)}, list{all}},
		{"all pixels that there are", list{box(-limit, -limit, limit, limit)}, list{all}},
		{"beyond the valid coordinates", list{box(-limit-1, 0, 4, 3), box(0, 0, limit+1, 3), box(0, -limit-1, 4, 3), box(0, 0, 4, limit+1)}, nil},
		{"beside the surface", list{box(4, 0, 5, 3), box(-1, 0, 0, 3), box(0, 3, 4, 4), box(0, -1, 4, 0), box(4, 3, 9, 9), box(-5, -5, 0, 0)}, nil},
		{"far outside", list{box(100, 100, 200, 200), box(-limit, -limit, -limit+1, -limit+1), box(limit-1, limit-1, limit, limit)}, nil},
		{"across the left edge", list{box(-2, 1, 2, 2)}, list{box(0, 1, 2, 2)}},
		{"across the right edge", list{box(2, 1, 9, 2)}, list{box(2, 1, 4, 2)}},
		{"across the top edge", list{box(1, -3, 2, 1)}, list{box(1, 0, 2, 1)}},
		{"across the bottom edge", list{box(1, 2, 2, 7)}, list{box(1, 2, 2, 3)}},
		{"across opposite edges", list{box(-1, 1, 5, 2)}, list{box(0, 1, 4, 2)}},
		{"overlapping", list{box(0, 0, 2, 2), box(1, 1, 3, 3)}, list{box(0, 0, 2, 1), box(0, 1, 3, 2), box(1, 2, 3, 3)}},
		{"touching side by side", list{box(2, 0, 3, 2), box(0, 0, 2, 2)}, list{box(0, 0, 3, 2)}},
		{"touching one below the other", list{box(1, 1, 3, 2), box(1, 0, 3, 1)}, list{box(1, 0, 3, 2)}},
		{"touching at a corner", list{box(1, 1, 2, 2), box(0, 0, 1, 1)}, list{box(0, 0, 1, 1), box(1, 1, 2, 2)}},
		{"twice the same", list{box(1, 0, 2, 3), box(1, 0, 2, 3)}, list{box(1, 0, 2, 3)}},
		{"different outside only", list{box(0, 0, 9, 1), box(0, 1, 5, 2), box(-3, 2, 4, 9)}, list{all}},
		{"divided outside only", list{box(0, 0, 2, 1), box(0, 1, 2, 2), box(5, 0, 6, 1)}, list{box(0, 0, 2, 2)}},
	} {
		s := api.State{Scale: 2, Transform: api.Rotate270, Buffer: []api.Buffer{plain(6, 8)}, Opaque: list{box(0, 0, 1, 1)}}
		s.Damage = x.l
		if l, e := state.DamageRegion(s); e != api.OK || !slices.Equal(l, x.want) {
			t.Errorf("damage, %s: %v, %d, want %v", x.name, l, e, x.want)
		}
		if l, e := state.InputRegion(s); e != api.OK || !slices.Equal(l, list{all}) {
			t.Errorf("no input region, damage %s: %v, %d", x.name, l, e)
		}
		s.Damage, s.Input = nil, x.l
		if l, e := state.InputRegion(s); e != api.OK || !slices.Equal(l, list{all}) {
			t.Errorf("ignored input, %s: %v, %d", x.name, l, e)
		}
		s.InputSet = true
		if l, e := state.InputRegion(s); e != api.OK || !slices.Equal(l, x.want) {
			t.Errorf("input, %s: %v, %d, want %v", x.name, l, e, x.want)
		}
		if l, e := state.DamageRegion(s); e != api.OK || len(l) != 0 {
			t.Errorf("no damage, input %s: %v, %d", x.name, l, e)
		}
	}
}

// P16.4: the regions are those of the surface, with every transform, scale and viewport, not those of the buffer.
func TestRegionsOfSizes(t *testing.T) {
	for turn := range 8 {
		for scale := 1; scale <= api.MaxScale; scale++ {
			for _, dest := range []api.Point{{}, {X: 1, Y: 1}, {X: 5, Y: 30}, {X: 30, Y: 5}} {
				s := api.State{Scale: scale, Transform: turn, Dest: dest, Buffer: []api.Buffer{plain(12, 24)}, Damage: list{box(-1, 1, 40, 2), box(2, 0, 4, 50)}}
				compare(t, s)
				compare(t, but(s, func(s *api.State) { s.InputSet = true }))
				compare(t, but(s, func(s *api.State) { s.InputSet, s.Input = true, list{box(0, 1, 7, 50), box(1, 0, 50, 3)} }))
				w, h := sizeOf(s)
				all := api.State{Scale: scale, Transform: turn, Dest: dest, Buffer: s.Buffer, Damage: list{box(-limit, -limit, limit, limit)}}
				damage, e1 := state.DamageRegion(all)
				input, e2 := state.InputRegion(all)
				if want := (list{box(0, 0, w, h)}); e1 != api.OK || e2 != api.OK || !slices.Equal(damage, want) || !slices.Equal(input, want) {
					t.Fatalf("%v: %v and %d, %v and %d, want %v", brief(all), damage, e1, input, e2, want)
				}
			}
		}
	}
}

// P16.4: as many rectangles as a region may have, in the surface, partly in it, and outside; the part in the surface never has too many.
func TestRegionLimits(t *testing.T) {
	s := but(showing(plain(most, most)), func(s *api.State) { s.InputSet = true })
	dots := func(n int) (out list) { // of one pixel each, 128 in a row
		for i := range n {
			x, y := i%128*2, i/128*2
			out = append(out, box(x, y, x+1, y+1))
		}
		return out
	}
	for _, l := range []list{dots(mostRects), columns(mostRects), rows(mostRects), steps(mostRects), append(dots(mostRects), dots(mostRects)...)} {
		compare(t, but(s, func(s *api.State) { s.Damage, s.Input = l, l }))
		compare(t, but(s, func(s *api.State) { s.Damage, s.Input, s.Buffer = l, l, []api.Buffer{plain(7, 5)} }))
		compare(t, but(s, func(s *api.State) { s.Damage, s.Input, s.Buffer = l, l, nil }))
	}
	if l, e := state.DamageRegion(but(s, func(s *api.State) { s.Damage = dots(mostRects) })); e != api.OK || !slices.Equal(l, dots(mostRects)) {
		t.Error(len(l), e)
	}
	// What is outside the surface counts for the limit, as it does for Check.
	outside := append(columns(mostRects), box(0, 300, 1, 301))
	for _, b := range [][]api.Buffer{nil, {plain(1, 1)}} {
		nothing(t, api.State{Scale: 1, Buffer: b, Damage: outside}, api.ErrLimit)
		nothing(t, api.State{Scale: 1, Buffer: b, InputSet: true, Input: outside}, api.ErrLimit)
		nothing(t, api.State{Scale: 1, Buffer: b, Opaque: outside}, api.ErrLimit)
	}
}

// R3: Content and the regions neither modify nor keep the state, and are new memory.
func TestMemoryResults(t *testing.T) {
	for _, s := range []api.State{one(), two(), showing(plain(3, 2)), but(showing(paint("AB", "CD")), func(s *api.State) {
		s.Damage, s.InputSet, s.Input = list{box(0, 0, 2, 2)}, true, list{box(0, 0, 1, 2)}
	})} {
		arg := roomy(s)
		before := reached(arg)
		unchanged := func(what string) {
			t.Helper()
			if !same(reached(arg), before) {
				t.Fatalf("%s: %v, was %v", what, brief(reached(arg)), brief(before))
			}
		}
		state.Check(arg)
		state.Size(arg)
		b, _ := state.Content(arg)
		damage, _ := state.DamageRegion(arg)
		input, _ := state.InputRegion(arg)
		unchanged("after the calls")
		fill(b.Pixels, api.Pixel{R: 1, A: 99})
		fill(damage, box(-7, -7, -6, -6))
		fill(input, box(-7, -7, -6, -6))
		unchanged("after changes of the results")
		b, _ = state.Content(arg)
		damage, _ = state.DamageRegion(arg)
		input, _ = state.InputRegion(arg)
		spoil(arg)
		want, _ := contentOf(s)
		if !sameBuffer(b, want) || !slices.Equal(damage, damageOf(s)) || !slices.Equal(input, inputOf(s)) {
			t.Fatalf("after changes of the argument: %v, %v, %v", briefBuffer(b), damage, input)
		}
	}
}
