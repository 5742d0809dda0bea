package surface_test

import (
	"math"
	"math/rand/v2"
	"slices"
	"strings"
	"testing"

	"compositor/api"
	"compositor/region"
	"compositor/surface"
)

const (
	most      = api.MaxSize
	limit     = api.MaxCoord
	mostRects = api.MaxRects
	mostCalls = api.MaxObjects // callbacks that may be pending
)

// extremes are numbers at and beyond every limit, such that products of them overflow, and such that lower bits of them alone would be within the limits.
var extremes = []int{math.MinInt, math.MinInt + 1, -1 << 62, -1<<32 + 1, -1 << 32, math.MinInt32, -limit - 1, -limit, -limit + 1, -most - 1, -most, -8, -4, -2, -1,
	0, 1, 2, 3, 4, 5, 6, 7, 8, 9, most - 1, most, most + 1, limit - 1, limit, limit + 1, math.MaxInt32, 1 << 32, 1<<32 + 1, 1<<32 + 4, 1 << 56, 1 << 62, math.MaxInt - 1, math.MaxInt}

type list = []api.Rect

// box is short for a rectangle.
func box(x0, y0, x1, y1 int) api.Rect {
	return api.Rect{X0: x0, Y0: y0, X1: x1, Y1: y1}
}

// whole returns the region of a surface of this size.
func whole(w, h int) list {
	return list{box(0, 0, w, h)}
}

// plain returns a valid buffer with the same translucent pixel everywhere.
func plain(w, h int) api.Buffer {
	return api.Buffer{Width: w, Height: h, Pixels: slices.Repeat([]api.Pixel{{R: 1, G: 2, B: 3, A: 4}}, w*h)}
}

// one returns the list of a plain buffer.
func one(w, h int) []api.Buffer {
	return []api.Buffer{plain(w, h)}
}

// paint returns the list of the buffer of a picture: a string for each row, and a letter for each pixel.
func paint(rows ...string) []api.Buffer {
	out := api.Buffer{Width: len(rows[0]), Height: len(rows)}
	for _, c := range []byte(strings.Join(rows, "")) {
		out.Pixels = append(out.Pixels, api.Pixel{R: c, G: c / 2, B: 1, A: c + 1})
	}
	return []api.Buffer{out}
}

// dots returns the n rectangles from the number first on of those with one pixel in every second column and row of a surface of the greatest size. No two of them touch.
func dots(first, n int) (out list) {
	for i := first; i < first+n; i++ {
		x, y := i%128*2, i/128*2
		out = append(out, box(x, y, x+1, y+1))
	}
	return out
}

// canonical returns the canonical region of a list, and false if it has too many rectangles.
func canonical(l list) (list, bool) {
	c, e := region.New(l...)
	return c, e == api.OK
}

// target is what a surface and the model of it have in common.
type target interface {
	Attach(b []api.Buffer) api.Errno
	SetScale(n int) api.Errno
	SetTransform(t int) api.Errno
	Damage(r api.Rect) api.Errno
	SetOpaque(l []api.Rect) api.Errno
	SetInput(l []api.Rect, whole bool) api.Errno
	SetViewport(w int, h int) api.Errno
	Frame(callback uint32) api.Errno
	Cache() api.Errno
	Apply() bool
	Commit() api.Errno
	Pending() api.State
	Current() api.State
	TakeDamage() []api.Rect
	TakeCallbacks() []uint32
	Mapped() bool
	Commits() int
}

// A change is what a request that succeeded does to a state.
type change struct {
	field int
	do    func(s *api.State)
}

// model is a surface that remembers requests instead of states: those that are pending, and those that are cached.
type model struct {
	pending, cached []change
	waiting         bool // whether Cache has succeeded since the last Apply
	current         api.State
	damage          list
	commits         int
}

func newModel() *model {
	return &model{current: api.State{Scale: 1}}
}

// replay returns a state after some changes, whose lists may grow but not into the memory of s.
func replay(s api.State, changes []change) api.State {
	s.Damage, s.Callbacks = slices.Clip(s.Damage), slices.Clip(s.Callbacks)
	for _, c := range changes {
		c.do(&s)
		s.Set |= c.field
	}
	s.Damage, _ = canonical(s.Damage)
	return s
}

// fresh returns the initial state after some changes.
func fresh(changes []change) api.State {
	return replay(api.State{Scale: 1}, changes)
}

// request remembers a change unless the request has an error.
func (m *model) request(e api.Errno, field int, do func(s *api.State)) api.Errno {
	if e == api.OK {
		m.pending = append(m.pending, change{field, do})
	}
	return e
}

// unless returns e if ok is false.
func unless(ok bool, e api.Errno) api.Errno {
	if ok {
		return api.OK
	}
	return e
}

func (m *model) Attach(b []api.Buffer) api.Errno {
	e := api.OK
	if len(b) > 1 {
		e = api.ErrArgument
	} else if len(b) == 1 && !good(b[0]) {
		e = api.ErrBuffer
	}
	return m.request(e, api.FieldBuffer, func(s *api.State) { s.Buffer = b })
}

// good reports whether a buffer is valid.
func good(b api.Buffer) bool {
	if b.Width < 1 || b.Width > most || b.Height < 1 || b.Height > most || len(b.Pixels) != b.Width*b.Height {
		return false
	}
	return !slices.ContainsFunc(b.Pixels, func(p api.Pixel) bool { return p.R > p.A || p.G > p.A || p.B > p.A })
}

func (m *model) SetScale(n int) api.Errno {
	return m.request(unless(n == 1 || n == 2 || n == 3 || n == 4, api.ErrArgument), api.FieldScale, func(s *api.State) { s.Scale = n })
}

func (m *model) SetTransform(t int) api.Errno {
	return m.request(unless(0 <= t && t <= 7, api.ErrArgument), api.FieldTransform, func(s *api.State) { s.Transform = t })
}

func (m *model) Damage(r api.Rect) api.Errno {
	e := api.OK
	if !slices.Equal([]int{r.X0, r.Y0, r.X1, r.Y1}, []int{near(r.X0), near(r.Y0), near(r.X1), near(r.Y1)}) {
		e = api.ErrRange
	} else if _, ok := canonical(append(fresh(m.pending).Damage, r)); !ok {
		e = api.ErrLimit
	}
	return m.request(e, api.FieldDamage, func(s *api.State) { s.Damage = append(s.Damage, r) })
}

// near returns the coordinate in range that is nearest to n.
func near(n int) int {
	return max(-limit, min(n, limit))
}

func (m *model) SetOpaque(l []api.Rect) api.Errno {
	c, ok := canonical(l)
	return m.request(unless(ok, api.ErrLimit), api.FieldOpaque, func(s *api.State) { s.Opaque = c })
}

func (m *model) SetInput(l []api.Rect, whole bool) api.Errno {
	c, ok := canonical(l)
	if whole {
		c, ok = nil, true
	}
	return m.request(unless(ok, api.ErrLimit), api.FieldInput, func(s *api.State) { s.InputSet, s.Input = !whole, c })
}

func (m *model) SetViewport(w int, h int) api.Errno {
	none := w == 0 && h == 0
	return m.request(unless(none || min(w, h) >= 1 && max(w, h) <= most, api.ErrRange), api.FieldViewport, func(s *api.State) { s.Dest = api.Point{X: w, Y: h} })
}

func (m *model) Frame(callback uint32) api.Errno {
	e := api.OK
	if callback == 0 {
		e = api.ErrArgument
	} else if len(fresh(m.pending).Callbacks) == mostCalls {
		e = api.ErrLimit
	}
	return m.request(e, api.FieldCallback, func(s *api.State) { s.Callbacks = append(s.Callbacks, callback) })
}

func (m *model) Cache() api.Errno {
	all := slices.Concat(m.cached, m.pending)
	var damage list
	for _, l := range []list{fresh(m.cached).Damage, fresh(m.pending).Damage} {
		damage = append(damage, l...)
	}
	if _, ok := canonical(damage); !ok {
		return api.ErrLimit
	}
	s := replay(m.current, all)
	for _, b := range s.Buffer {
		if b.Width%s.Scale != 0 || b.Height%s.Scale != 0 {
			return api.ErrBuffer
		}
	}
	m.pending, m.cached, m.waiting = nil, all, true
	return api.OK
}

func (m *model) Apply() bool {
	if !m.waiting {
		return false
	}
	before := m.current
	m.current.Damage = nil
	m.current = replay(m.current, m.cached)
	m.current.Set = 0
	m.cached, m.waiting = nil, false
	m.commits++
	m.accumulate(before)
	return true
}

// accumulate is the definition of the accumulated damage.
func (m *model) accumulate(before api.State) {
	now := m.current
	w, h := sizeOf(now)
	oldW, oldH := sizeOf(before)
	if len(now.Buffer) == 0 {
		m.damage = nil
		return
	}
	sum, ok := canonical(append(clip(now.Damage, w, h), m.damage...))
	if len(before.Buffer) == 0 || w != oldW || h != oldH || before.Scale != now.Scale || before.Transform != now.Transform || before.Dest != now.Dest || !ok {
		sum = whole(w, h)
	}
	m.damage = sum
}

// sizeOf is the definition of the size of a surface.
func sizeOf(s api.State) (int, int) {
	switch {
	case len(s.Buffer) == 0:
		return 0, 0
	case s.Dest.X != 0:
		return s.Dest.X, s.Dest.Y
	case s.Transform%2 == 1:
		return s.Buffer[0].Height / s.Scale, s.Buffer[0].Width / s.Scale
	}
	return s.Buffer[0].Width / s.Scale, s.Buffer[0].Height / s.Scale
}

// clip returns the parts of rectangles that are in a surface.
func clip(l list, w, h int) (out list) {
	for _, r := range l {
		out = append(out, box(max(r.X0, 0), max(r.Y0, 0), min(r.X1, w), min(r.Y1, h)))
	}
	return out
}

func (m *model) Commit() api.Errno {
	if e := m.Cache(); e != api.OK {
		return e
	}
	m.Apply()
	return api.OK
}

func (m *model) Pending() api.State {
	return fresh(m.pending)
}

func (m *model) Current() api.State {
	return m.current
}

func (m *model) TakeDamage() []api.Rect {
	defer func() { m.damage = nil }()
	return m.damage
}

func (m *model) TakeCallbacks() []uint32 {
	defer func() { m.current.Callbacks = nil }()
	return m.current.Callbacks
}

func (m *model) Mapped() bool {
	return len(m.current.Buffer) == 1
}

func (m *model) Commits() int {
	return m.commits
}

// sameBuffer and same report whether two buffers and two states are equal; an empty slice may be nil or not.
func sameBuffer(a, b api.Buffer) bool {
	return a.Width == b.Width && a.Height == b.Height && slices.Equal(a.Pixels, b.Pixels)
}

func same(a, b api.State) bool {
	return a.Set == b.Set && a.Scale == b.Scale && a.Transform == b.Transform && a.InputSet == b.InputSet && a.Dest == b.Dest &&
		slices.EqualFunc(a.Buffer, b.Buffer, sameBuffer) && slices.Equal(a.Callbacks, b.Callbacks) &&
		slices.Equal(a.Damage, b.Damage) && slices.Equal(a.Opaque, b.Opaque) && slices.Equal(a.Input, b.Input)
}

// brief returns what to print of a state.
func brief(s api.State) []any {
	out := []any{"Set", s.Set, "Scale", s.Scale, "Transform", s.Transform, "Dest", s.Dest, "InputSet", s.InputSet, "Callbacks", len(s.Callbacks), s.Callbacks[:min(len(s.Callbacks), 8)]}
	for _, b := range s.Buffer {
		out = append(out, "Buffer", b.Width, b.Height, len(b.Pixels))
	}
	for _, l := range []list{s.Damage, s.Opaque, s.Input} {
		out = append(out, len(l), l[:min(len(l), 8)])
	}
	return out
}

// pair is a surface and the model of it, on which the same calls are made.
type pair struct {
	*surface.Surface
	model *model
}

func newPair() *pair {
	return &pair{surface.New(), newModel()}
}

// do makes a call on both and compares the results, and then what both show.
func (p *pair) do(t *testing.T, name string, call func(x target) api.Errno) {
	t.Helper()
	want := call(p.model)
	if got := call(p.Surface); got != want {
		t.Fatalf("%s: %d, want %d", name, got, want)
	}
	p.compare(t, name)
}

// compare compares what both show.
func (p *pair) compare(t *testing.T, name string) {
	t.Helper()
	if got, want := p.Pending(), p.model.Pending(); !same(got, want) {
		t.Fatalf("%s: Pending is %v, want %v", name, brief(got), brief(want))
	}
	if got, want := p.Current(), p.model.Current(); !same(got, want) {
		t.Fatalf("%s: Current is %v, want %v", name, brief(got), brief(want))
	}
	if got, want := p.Mapped(), p.model.Mapped(); got != want {
		t.Fatalf("%s: Mapped is %t, want %t", name, got, want)
	}
	if got, want := p.Commits(), p.model.Commits(); got != want {
		t.Fatalf("%s: Commits is %d, want %d", name, got, want)
	}
}

// apply, takeDamage and takeCallbacks make the calls that return no error.
func (p *pair) apply(t *testing.T) {
	t.Helper()
	if got, want := p.Apply(), p.model.Apply(); got != want {
		t.Fatalf("Apply: %t, want %t", got, want)
	}
	p.compare(t, "Apply")
}

func (p *pair) takeDamage(t *testing.T) {
	t.Helper()
	if got, want := p.TakeDamage(), p.model.TakeDamage(); !slices.Equal(got, want) {
		t.Fatalf("TakeDamage: %v, want %v", got, want)
	}
	p.compare(t, "TakeDamage")
}

func (p *pair) takeCallbacks(t *testing.T) {
	t.Helper()
	if got, want := p.TakeCallbacks(), p.model.TakeCallbacks(); !slices.Equal(got, want) {
		t.Fatalf("TakeCallbacks: %v, want %v", got, want)
	}
	p.compare(t, "TakeCallbacks")
}

// drain commits what is left on both, takes what there is to take, and finds nothing more.
func (p *pair) drain(t *testing.T) {
	t.Helper()
	p.do(t, "Commit", func(x target) api.Errno { return x.Commit() })
	for range 2 {
		p.takeDamage(t)
		p.takeCallbacks(t)
	}
}

// numbers returns numbers that are the same in each run of the tests.
func numbers(seed uint64) *rand.Rand {
	return rand.New(rand.NewPCG(17, seed))
}

// succeed checks that calls have had no error.
func succeed(t *testing.T, errors ...api.Errno) {
	t.Helper()
	for i, e := range errors {
		if e != api.OK {
			t.Fatalf("call %d: %d", i, e)
		}
	}
}

// refuses checks that a call returns an error and changes neither the states nor what can be taken later.
func refuses(t *testing.T, s *surface.Surface, want api.Errno, call func() api.Errno) {
	t.Helper()
	pending, current, commits, mapped := s.Pending(), s.Current(), s.Commits(), s.Mapped()
	if e := call(); e != want {
		t.Fatalf("%d, want %d", e, want)
	}
	if p, c := s.Pending(), s.Current(); !same(p, pending) || !same(c, current) {
		t.Fatalf("after the error %d: %v and %v, want %v and %v", want, brief(p), brief(c), brief(pending), brief(current))
	}
	if s.Commits() != commits || s.Mapped() != mapped {
		t.Fatalf("after the error %d: %d, %t", want, s.Commits(), s.Mapped())
	}
}

// pends and is check the pending and the current state.
func pends(t *testing.T, s *surface.Surface, want api.State) {
	t.Helper()
	if got := s.Pending(); !same(got, want) {
		t.Fatalf("Pending is %v, want %v", brief(got), brief(want))
	}
}

func is(t *testing.T, s *surface.Surface, want api.State) {
	t.Helper()
	if got := s.Current(); !same(got, want) {
		t.Fatalf("Current is %v, want %v", brief(got), brief(want))
	}
}

// damaged checks the accumulated damage, which is taken.
func damaged(t *testing.T, s *surface.Surface, want list) {
	t.Helper()
	if got := s.TakeDamage(); !slices.Equal(got, want) {
		t.Fatalf("TakeDamage: %v, want %v", got, want)
	}
	if got := s.TakeDamage(); len(got) != 0 {
		t.Fatalf("TakeDamage once more: %v", got)
	}
}

// called checks the callbacks of the current state, which are taken.
func called(t *testing.T, s *surface.Surface, want ...uint32) {
	t.Helper()
	if got := s.TakeCallbacks(); !slices.Equal(got, want) {
		t.Fatalf("TakeCallbacks: %v, want %v", got, want)
	}
	if got := s.TakeCallbacks(); len(got) != 0 {
		t.Fatalf("TakeCallbacks once more: %v", got)
	}
}

// busy returns a surface with a current, a cached and a pending state in which every field has been set, and differs from that of the others.
func busy(t *testing.T) *surface.Surface {
	t.Helper()
	s := surface.New()
	succeed(t, s.Attach(paint("ABCD", "EFGH")), s.SetScale(2), s.SetTransform(api.Rotate90), s.Damage(box(0, 0, 1, 1)), s.SetOpaque(list{box(0, 0, 1, 2)}),
		s.SetInput(list{box(-1, -1, 2, 1)}, false), s.SetViewport(5, 6), s.Frame(7), s.Frame(8), s.Commit())
	succeed(t, s.Attach(one(4, 4)), s.SetScale(4), s.SetTransform(api.Flipped), s.Damage(box(1, 1, 2, 2)), s.SetOpaque(list{box(1, 1, 2, 2)}),
		s.SetInput(list{box(0, 0, 2, 2)}, false), s.SetViewport(3, 2), s.Frame(9), s.Cache())
	succeed(t, s.Attach(paint("ABC", "DEF", "GHI")), s.SetScale(3), s.SetTransform(api.Rotate180), s.Damage(box(2, 0, 3, 1)), s.SetOpaque(list{box(2, 0, 3, 4)}),
		s.SetInput(list{box(3, 0, 4, 1)}, false), s.SetViewport(7, 8), s.Frame(10))
	return s
}
