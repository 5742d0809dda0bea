package state_test

import (
	"math"
	"math/rand/v2"
	"slices"
	"strings"
	"testing"

	"compositor/api"
	"compositor/state"
)

const (
	most      = api.MaxSize
	limit     = api.MaxCoord
	mostRects = api.MaxRects
	allBits   = api.FieldBuffer | api.FieldScale | api.FieldTransform | api.FieldDamage | api.FieldOpaque | api.FieldInput | api.FieldViewport | api.FieldCallback
)

// extremes are numbers at and beyond every limit, such that products of them overflow, and such that lower bits of them alone would be within the limits.
var extremes = []int{math.MinInt, math.MinInt + 1, -1 << 62, -1<<32 + 1, -1 << 32, math.MinInt32, -limit - 1, -limit, -most - 1, -most, -8, -4, -2, -1,
	0, 1, 2, 3, 4, 5, 6, 7, 8, 9, most - 1, most, most + 1, limit, limit + 1, math.MaxInt32, 1 << 32, 1<<32 + 1, 1<<32 + 4, 1 << 56, 1 << 62, math.MaxInt - 1, math.MaxInt}

type list = []api.Rect

// box is short for a rectangle.
func box(x0, y0, x1, y1 int) api.Rect {
	return api.Rect{X0: x0, Y0: y0, X1: x1, Y1: y1}
}

// paint returns the buffer of a picture: a string for each row, and a letter for each pixel.
func paint(rows ...string) api.Buffer {
	out := api.Buffer{Width: len(rows[0]), Height: len(rows)}
	for _, c := range []byte(strings.Join(rows, "")) {
		out.Pixels = append(out.Pixels, api.Pixel{R: c, G: c / 2, B: 1, A: c + 1})
	}
	return out
}

// plain returns a valid buffer with the same translucent pixel everywhere.
func plain(w, h int) api.Buffer {
	return api.Buffer{Width: w, Height: h, Pixels: slices.Repeat([]api.Pixel{{R: 1, G: 2, B: 3, A: 4}}, w*h)}
}

// numbers returns numbers that are the same in each run of the tests.
func numbers() *rand.Rand {
	return rand.New(rand.NewPCG(16, 16))
}

// noisy returns a valid buffer of random pixels.
func noisy(random *rand.Rand, w, h int) api.Buffer {
	out := plain(w, h)
	for i := range out.Pixels {
		n := random.Uint32()
		a := uint8(n)
		out.Pixels[i] = api.Pixel{R: min(uint8(n>>8), a), G: min(uint8(n>>16), a), B: min(uint8(n>>24), a), A: a}
	}
	return out
}

// bad returns buffers that are not valid: with sizes out of range, with too few or too many pixels, and with pixels that are not valid. Where they have a size, each scale divides it.
func bad() []api.Buffer {
	out := []api.Buffer{{}, {Width: 12, Height: 12}, {Pixels: plain(1, 1).Pixels}, {Width: -12, Height: -12, Pixels: plain(12, 12).Pixels}, plain(264, 12), plain(12, 264), plain(264, 264)}
	for _, n := range extremes {
		if n < 1 || n > most {
			out = append(out, api.Buffer{Width: n, Height: 12, Pixels: plain(12, 12).Pixels}, api.Buffer{Width: 12, Height: n, Pixels: plain(12, 12).Pixels}, api.Buffer{Width: n, Height: n})
		}
	}
	for _, n := range []int{1, 12, 143, 145, 288} {
		out = append(out, api.Buffer{Width: 12, Height: 12, Pixels: plain(n, 1).Pixels})
	}
	for _, p := range []api.Pixel{{R: 5, A: 4}, {G: 5, A: 4}, {B: 5, A: 4}, {R: 255, G: 255, B: 255, A: 254}, {B: 1}} {
		for _, i := range []int{0, 77, 143} {
			b := plain(12, 12)
			b.Pixels[i] = p
			out = append(out, b)
		}
	}
	return out
}

// columns returns n rectangles of one row, and rows n rectangles of one column; no two of them touch.
func columns(n int) (out list) {
	for i := range n {
		out = append(out, box(2*i, 0, 2*i+1, 1))
	}
	return out
}

func rows(n int) (out list) {
	for i := range n {
		out = append(out, box(-3, 3*i, 5, 3*i+2))
	}
	return out
}

// steps returns n rectangles one below the other, each of which touches the next one and begins in another column.
func steps(n int) (out list) {
	for i := range n {
		out = append(out, box(i%3, i, 9, i+1))
	}
	return out
}

// showing returns the initial state with a buffer.
func showing(b api.Buffer) api.State {
	return api.State{Scale: 1, Buffer: []api.Buffer{b}}
}

// but returns s with a change, which must not write to the slices of s.
func but(s api.State, change func(s *api.State)) api.State {
	change(&s)
	return s
}

// one and two return states without errors in which all fields are set, and differ from those of the other.
func one() api.State {
	return api.State{Scale: 2, Transform: api.Rotate90, Buffer: []api.Buffer{paint("ABCD", "EFGH")}, Damage: list{box(0, 0, 1, 1)}, Opaque: list{box(0, 0, 3, 1), box(1, 0, 2, 2)},
		InputSet: true, Input: list{box(-1, -1, 2, 1)}, Dest: api.Point{X: 5, Y: 6}, Callbacks: []uint32{7, 8}}
}

func two() api.State {
	return api.State{Scale: 4, Transform: api.Flipped, Buffer: []api.Buffer{noisy(numbers(), 8, 12)}, Damage: list{box(1, 1, 3, 2), box(-4, 0, 1, 9)}, Opaque: list{box(1, 1, 2, 2)},
		InputSet: true, Input: list{box(0, 0, 2, 2), box(1, 1, 3, 3)}, Dest: api.Point{X: 3, Y: 2}, Callbacks: []uint32{9, 7, math.MaxUint32}}
}

// has reports whether (x, y) is a pixel of a rectangle of the list.
func has(l list, x, y int) bool {
	return slices.ContainsFunc(l, func(r api.Rect) bool { return known(r) && r.X0 <= x && x < r.X1 && r.Y0 <= y && y < r.Y1 })
}

// known reports whether a rectangle is valid.
func known(r api.Rect) bool {
	return min(r.X0, r.Y0, r.X1, r.Y1) >= -limit && max(r.X0, r.Y0, r.X1, r.Y1) <= limit
}

// bands returns the canonical region of the pixels for which in returns true. All of them are between the first and the last of the lines, and in does not change between two lines.
func bands(xs, ys []int, in func(x, y int) bool) (out list) {
	var band list
	for i := range len(ys) - 1 {
		var row list
		for j := range len(xs) - 1 {
			if !in(xs[j], ys[i]) {
				continue
			}
			if n := len(row); n > 0 && row[n-1].X1 == xs[j] {
				row[n-1].X1 = xs[j+1]
				continue
			}
			row = append(row, box(xs[j], ys[i], xs[j+1], ys[i+1]))
		}
		if slices.EqualFunc(band, row, func(a, b api.Rect) bool { return a.X0 == b.X0 && a.X1 == b.X1 }) {
			for k := range band {
				band[k].Y1 = ys[i+1]
			}
			continue
		}
		out = append(out, row...)
		band = out[len(out)-len(row):]
	}
	return out
}

// canonical returns the canonical region of a list.
func canonical(l list) list {
	var xs, ys []int
	for _, r := range l {
		if known(r) {
			xs, ys = append(xs, r.X0, r.X1), append(ys, r.Y0, r.Y1)
		}
	}
	slices.Sort(xs)
	slices.Sort(ys)
	return bands(slices.Compact(xs), slices.Compact(ys), func(x, y int) bool { return has(l, x, y) })
}

// inside returns the canonical region of the pixels of a list that are in the surface, pixel by pixel.
func inside(l list, w, h int) list {
	return bands(lines(w), lines(h), func(x, y int) bool { return has(l, x, y) })
}

// lines returns the numbers from 0 to n.
func lines(n int) (out []int) {
	for i := range n + 1 {
		out = append(out, i)
	}
	return out
}

// fault is the definition of Check.
func fault(s api.State) api.Errno {
	outside := func(n int) bool { return n < 1 || n > most }
	switch {
	case s.Scale < 1, s.Scale > 4, s.Transform < 0, s.Transform > 7, len(s.Buffer) > 1:
		return api.ErrArgument
	case len(s.Buffer) == 1 && !whole(s.Buffer[0], s.Scale):
		return api.ErrBuffer
	case (s.Dest.X != 0 || s.Dest.Y != 0) && (outside(s.Dest.X) || outside(s.Dest.Y)):
		return api.ErrRange
	case len(canonical(s.Damage)) > mostRects, len(canonical(s.Opaque)) > mostRects, s.InputSet && len(canonical(s.Input)) > mostRects:
		return api.ErrLimit
	}
	return api.OK
}

// whole reports whether a buffer is valid and its sides are multiples of n.
func whole(b api.Buffer, n int) bool {
	if b.Width < 1 || b.Width > most || b.Height < 1 || b.Height > most || len(b.Pixels) != b.Width*b.Height {
		return false
	}
	return b.Width/n*n == b.Width && b.Height/n*n == b.Height && !slices.ContainsFunc(b.Pixels, func(p api.Pixel) bool { return p.R > p.A || p.G > p.A || p.B > p.A })
}

// sizeOf is the definition of Size.
func sizeOf(s api.State) (int, int) {
	switch {
	case len(s.Buffer) == 0 || fault(s) != api.OK:
		return 0, 0
	case s.Dest.X != 0 || s.Dest.Y != 0:
		return s.Dest.X, s.Dest.Y
	}
	w, h := upright(s)
	return w / s.Scale, h / s.Scale
}

// upright returns the size of the buffer after its transform.
func upright(s api.State) (int, int) {
	if s.Transform%2 == 1 {
		return s.Buffer[0].Height, s.Buffer[0].Width
	}
	return s.Buffer[0].Width, s.Buffer[0].Height
}

// turned returns where a transform moves the pixel (x, y) of an image of w by h pixels: the table of layer 7.
func turned(t, w, h, x, y int) (int, int) {
	switch t {
	case api.Rotate90:
		return y, w - 1 - x
	case api.Rotate180:
		return w - 1 - x, h - 1 - y
	case api.Rotate270:
		return h - 1 - y, x
	case api.Flipped:
		return w - 1 - x, y
	case api.Flipped90:
		return y, x
	case api.Flipped180:
		return x, h - 1 - y
	case api.Flipped270:
		return h - 1 - y, w - 1 - x
	}
	return x, y
}

// contentOf is the definition of Content: the transform moves each pixel of the image that is scaled to its place in the buffer.
func contentOf(s api.State) (api.Buffer, bool) {
	w, h := sizeOf(s)
	if w == 0 {
		return api.Buffer{}, false
	}
	b := s.Buffer[0]
	uw, uh := upright(s)
	out := api.Buffer{Width: w, Height: h}
	for y := range h {
		for x := range w {
			bx, by := turned(s.Transform, uw, uh, (2*x+1)*uw/(2*w), (2*y+1)*uh/(2*h))
			out.Pixels = append(out.Pixels, b.Pixels[by*b.Width+bx])
		}
	}
	return out, true
}

// damageOf and inputOf are the definitions of DamageRegion and InputRegion for states without errors.
func damageOf(s api.State) list {
	w, h := sizeOf(s)
	return inside(s.Damage, w, h)
}

func inputOf(s api.State) list {
	w, h := sizeOf(s)
	if !s.InputSet {
		return inside(list{box(0, 0, w, h)}, w, h)
	}
	return inside(s.Input, w, h)
}

// mergedOf is the definition of Merge.
func mergedOf(current, pending api.State) (api.State, api.Errno) {
	out := current
	out.Set, out.Damage = 0, nil
	bit := func(n int) bool { return pending.Set&n == n }
	if bit(1) {
		out.Buffer = pending.Buffer
	}
	if bit(2) {
		out.Scale = pending.Scale
	}
	if bit(4) {
		out.Transform = pending.Transform
	}
	if bit(8) {
		out.Damage = pending.Damage
	}
	if bit(16) {
		out.Opaque = pending.Opaque
	}
	if bit(32) {
		out.InputSet, out.Input = pending.InputSet, pending.Input
	}
	if bit(64) {
		out.Dest = pending.Dest
	}
	if bit(128) {
		out.Callbacks = slices.Concat(current.Callbacks, pending.Callbacks)
	}
	if e := fault(out); e != api.OK {
		return api.State{}, e
	}
	return out, api.OK
}

// sameBuffer and same report whether two buffers and two states are equal; an empty slice may be nil or not.
func sameBuffer(a, b api.Buffer) bool {
	return a.Width == b.Width && a.Height == b.Height && slices.Equal(a.Pixels, b.Pixels)
}

func same(a, b api.State) bool {
	return a.Set == b.Set && a.Scale == b.Scale && a.Transform == b.Transform && a.InputSet == b.InputSet && a.Dest == b.Dest &&
		slices.EqualFunc(a.Buffer, b.Buffer, sameBuffer) && slices.Equal(a.Callbacks, b.Callbacks) &&
		slices.Equal(a.Damage, b.Damage) && slices.Equal(a.Opaque, b.Opaque) && slices.Equal(a.Input, b.Input)
}

// brief returns what to print of a state.
func brief(s api.State) []any {
	out := []any{"Set", s.Set, "Scale", s.Scale, "Transform", s.Transform, "Dest", s.Dest, "InputSet", s.InputSet, "Callbacks", s.Callbacks}
	for _, b := range s.Buffer {
		out = append(out, "Buffer", briefBuffer(b))
	}
	for _, l := range []list{s.Damage, s.Opaque, s.Input} {
		out = append(out, len(l), l[:min(len(l), 8)])
	}
	return out
}

func briefBuffer(b api.Buffer) []any {
	return []any{b.Width, b.Height, len(b.Pixels), b.Pixels[:min(len(b.Pixels), 12)]}
}

// compare checks all functions of one state by their definitions.
func compare(t *testing.T, s api.State) {
	t.Helper()
	want := fault(s)
	if e := state.Check(s); e != want {
		t.Fatalf("%v: Check is %d, want %d", brief(s), e, want)
	}
	wantW, wantH := sizeOf(s)
	if w, h := state.Size(s); w != wantW || h != wantH {
		t.Fatalf("%v: Size is %d, %d, want %d, %d", brief(s), w, h, wantW, wantH)
	}
	wantContent, wantOK := contentOf(s)
	if b, ok := state.Content(s); ok != wantOK || !sameBuffer(b, wantContent) {
		t.Fatalf("%v: Content is %v, %t, want %v, %t", brief(s), briefBuffer(b), ok, briefBuffer(wantContent), wantOK)
	}
	var wantDamage, wantInput list
	if want == api.OK {
		wantDamage, wantInput = damageOf(s), inputOf(s)
	}
	if l, e := state.DamageRegion(s); e != want || !slices.Equal(l, wantDamage) {
		t.Fatalf("%v: DamageRegion is %v and %d, want %v and %d", brief(s), l, e, wantDamage, want)
	}
	if l, e := state.InputRegion(s); e != want || !slices.Equal(l, wantInput) {
		t.Fatalf("%v: InputRegion is %v and %d, want %v and %d", brief(s), l, e, wantInput, want)
	}
	if c := state.Clone(s); !same(c, s) {
		t.Fatalf("%v: Clone is %v", brief(s), brief(c))
	}
}

// compareMerge checks Merge by its definition.
func compareMerge(t *testing.T, current, pending api.State) {
	t.Helper()
	want, wantError := mergedOf(current, pending)
	merges(t, current, pending, want, wantError)
}

// merges checks the results of Merge.
func merges(t *testing.T, current, pending, want api.State, wantError api.Errno) {
	t.Helper()
	got, e := state.Merge(current, pending)
	if e != wantError || !same(got, want) {
		t.Fatalf("%v and %v: Merge is %v and %d, want %v and %d", brief(current), brief(pending), brief(got), e, brief(want), wantError)
	}
}
