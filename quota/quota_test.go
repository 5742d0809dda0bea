package quota_test

import (
	"math"
	"math/big"
	"math/rand/v2"
	"slices"
	"testing"

	"compositor/api"
	"compositor/quota"
)

// negatives are numbers below 0.
var negatives = []int{math.MinInt, math.MinInt + 1, -1 << 32, math.MinInt32, -1000, -2, -1}

// absent returns kinds that a quota of n kinds does not have.
func absent(n int) []int {
	return append(slices.Clone(negatives), n, n+1, 2*n+1, n+math.MaxInt16, math.MaxInt32, 1<<32, 1<<32+n, math.MaxInt-1, math.MaxInt)
}

// A call is one of Use or of Release.
type call struct {
	release bool
	kind, n int
}

// on makes the call.
func (c call) on(q *quota.Quota) api.Errno {
	if c.release {
		return q.Release(c.kind, c.n)
	}
	return q.Use(c.kind, c.n)
}

// model has the definitions of the chapter: the limits, and all successful calls.
type model struct {
	limits []int
	calls  []call
}

// count returns the uses minus the releases of a kind.
func (m *model) count(kind int) *big.Int {
	sum := big.NewInt(0)
	for _, c := range m.calls {
		switch n := big.NewInt(int64(c.n)); {
		case c.kind == kind && c.release:
			sum.Sub(sum, n)
		case c.kind == kind:
			sum.Add(sum, n)
		}
	}
	return sum
}

// on makes the call.
func (m *model) on(c call) api.Errno {
	if c.kind <= -1 || c.kind > len(m.limits)-1 {
		return api.ErrNotFound
	}
	if c.n <= -1 {
		return api.ErrRange
	}
	n, count, limit := big.NewInt(int64(c.n)), m.count(c.kind), big.NewInt(int64(max(0, m.limits[c.kind])))
	switch {
	case c.release && n.Cmp(count) > 0:
		return api.ErrState
	case !c.release && n.Add(n, count).Cmp(limit) > 0:
		return api.ErrLimit
	}
	m.calls = append(m.calls, c)
	return api.OK
}

// pair is a quota and the model of it.
type pair struct {
	*quota.Quota
	model model
}

func newPair(limits ...int) *pair {
	return &pair{Quota: quota.New(limits), model: model{limits: slices.Clone(limits)}}
}

// do makes the call on both, and compares the errors and the counts.
func (p *pair) do(t *testing.T, c call) {
	t.Helper()
	e := c.on(p.Quota)
	if want := p.model.on(c); e != want {
		t.Fatalf("limits %v, call %+v: error %d, want %d", p.model.limits, c, e, want)
	}
	for kind, limit := range p.model.limits {
		n := p.Used(kind)
		if n < 0 || n > max(limit, 0) || p.model.count(kind).Cmp(big.NewInt(int64(n))) != 0 {
			t.Fatalf("limits %v, call %+v: %d used of kind %d, want %d", p.model.limits, c, n, kind, p.model.count(kind))
		}
	}
}

// wantErrno checks the error of a call.
func wantErrno(t *testing.T, what string, got, want api.Errno) {
	t.Helper()
	if got != want {
		t.Fatalf("%s: error %d, want %d", what, got, want)
	}
}

// wantUsed checks the counts of all kinds, and that there are no others.
func wantUsed(t *testing.T, q *quota.Quota, counts ...int) {
	t.Helper()
	for kind, n := range counts {
		if got := q.Used(kind); got != n {
			t.Fatalf("Used(%d): %d, want %d", kind, got, n)
		}
	}
	for _, kind := range absent(len(counts)) {
		if got := q.Used(kind); got != 0 {
			t.Fatalf("Used(%d): %d for one of %d kinds", kind, got, len(counts))
		}
	}
}

// wantUse and wantRelease check the error of a call, and what it leaves of the count.
func wantUse(t *testing.T, q *quota.Quota, kind, n int, want api.Errno, count int) {
	t.Helper()
	if e := q.Use(kind, n); e != want || q.Used(kind) != count {
		t.Fatalf("Use(%d, %d): error %d, count %d, want error %d, count %d", kind, n, e, q.Used(kind), want, count)
	}
}

func wantRelease(t *testing.T, q *quota.Quota, kind, n int, want api.Errno, count int) {
	t.Helper()
	if e := q.Release(kind, n); e != want || q.Used(kind) != count {
		t.Fatalf("Release(%d, %d): error %d, count %d, want error %d, count %d", kind, n, e, q.Used(kind), want, count)
	}
}

// The chapter's example 1.
func TestExampleQuota(t *testing.T) {
	q := quota.New([]int{2, 0})
	wantUse(t, q, 0, 2, api.OK, 2)
	wantUse(t, q, 0, 1, api.ErrLimit, 2)
	wantUse(t, q, 1, 0, api.OK, 0)
	wantUse(t, q, 2, 0, api.ErrNotFound, 0)
	wantRelease(t, q, 0, 3, api.ErrState, 2)
	wantUsed(t, q, 2, 0)
}

// P15.1: New returns a quota with the kinds 0 to len(limits) - 1 and these limits. All counts are 0 at first.
func TestNew(t *testing.T) {
	for _, n := range []int{0, 1, 2, 3, 7, 8, 9, 15, 16, 17, 63, 64, 65, 255, 256, 257, 1000, 1<<16 + 1} {
		limits := make([]int, n)
		for i := range limits {
			limits[i] = i * 7 % 13
		}
		q := quota.New(limits)
		wantUsed(t, q, make([]int, n)...)
		for i, limit := range limits {
			wantUse(t, q, i, limit+1, api.ErrLimit, 0)
			wantUse(t, q, i, limit, api.OK, limit)
			wantUse(t, q, i, 1, api.ErrLimit, limit)
			wantUse(t, q, i, 0, api.OK, limit)
		}
		wantUsed(t, q, limits...)
		for _, kind := range absent(n) {
			wantUse(t, q, kind, 0, api.ErrNotFound, 0)
			wantRelease(t, q, kind, 0, api.ErrNotFound, 0)
		}
		for i, limit := range limits {
			wantRelease(t, q, i, limit+1, api.ErrState, limit)
			wantRelease(t, q, i, limit, api.OK, 0)
			wantRelease(t, q, i, 1, api.ErrState, 0)
		}
		wantUsed(t, q, make([]int, n)...)
	}
}

// P15.1: a quota of no limits has no kinds, but it is not nil.
func TestNoLimits(t *testing.T) {
	for _, limits := range [][]int{nil, {}, make([]int, 0, 5)} {
		q := quota.New(limits)
		for _, n := range []int{math.MinInt, -1, 0, 1, math.MaxInt} {
			wantUse(t, q, 0, n, api.ErrNotFound, 0)
			wantRelease(t, q, 0, n, api.ErrNotFound, 0)
		}
		wantUsed(t, q)
	}
}

// P15.1: a negative limit counts as 0.
func TestNegativeLimits(t *testing.T) {
	for _, limit := range append(slices.Clone(negatives), 0) {
		q := quota.New([]int{3, limit, 3})
		for _, n := range []int{1, 2, 3, -(limit + 1), math.MaxInt32, math.MaxInt - 1, math.MaxInt} {
			if n > 0 {
				wantUse(t, q, 1, n, api.ErrLimit, 0)
				wantRelease(t, q, 1, n, api.ErrState, 0)
			}
		}
		wantUse(t, q, 1, 0, api.OK, 0)
		wantRelease(t, q, 1, 0, api.OK, 0)
		wantUse(t, q, 0, 3, api.OK, 3)
		wantUse(t, q, 2, 2, api.OK, 2)
		wantUsed(t, q, 3, 0, 2)
	}
}

// P15.1: counts up to the greatest int, beyond which no sum of a count and n is taken for a small one.
func TestGreatestLimit(t *testing.T) {
	const most = math.MaxInt
	q := quota.New([]int{most, most - 1, most})
	wantUse(t, q, 0, most, api.OK, most)
	for _, n := range []int{1, 2, 3, 1 << 62, most - 1, most} {
		wantUse(t, q, 0, n, api.ErrLimit, most)
	}
	wantUse(t, q, 0, 0, api.OK, most)
	wantRelease(t, q, 0, 1, api.OK, most-1)
	wantRelease(t, q, 0, most, api.ErrState, most-1)
	for _, n := range []int{2, 3, 1 << 62, most - 1, most} {
		wantUse(t, q, 0, n, api.ErrLimit, most-1)
	}
	wantUse(t, q, 0, 1, api.OK, most)
	wantRelease(t, q, 0, most, api.OK, 0)
	wantRelease(t, q, 0, 1, api.ErrState, 0)
	wantUse(t, q, 1, most, api.ErrLimit, 0)
	wantUse(t, q, 1, most-1, api.OK, most-1)
	wantUse(t, q, 1, 1, api.ErrLimit, most-1)
	wantUse(t, q, 1, most, api.ErrLimit, most-1)
	wantRelease(t, q, 1, most, api.ErrState, most-1)
	wantUse(t, q, 2, 1<<62, api.OK, 1<<62)
	wantUse(t, q, 2, 1<<62, api.ErrLimit, 1<<62)
	wantUse(t, q, 2, 1<<62-1, api.OK, most)
	wantUsed(t, q, 0, most-1, most)
}

// P15.1: the errors of Use and Release, one by one.
func TestErrors(t *testing.T) {
	q := quota.New([]int{5, 9})
	wantUse(t, q, 0, 3, api.OK, 3)
	wantUse(t, q, 1, 9, api.OK, 9)
	for _, n := range negatives {
		wantUse(t, q, 0, n, api.ErrRange, 3)
		wantUse(t, q, 1, n, api.ErrRange, 9)
		wantRelease(t, q, 0, n, api.ErrRange, 3)
		wantRelease(t, q, 1, n, api.ErrRange, 9)
	}
	for _, n := range []int{3, 4, 5, 1000, 1 << 32, 1<<32 + 1, math.MaxInt - 4, math.MaxInt - 3, math.MaxInt} {
		wantUse(t, q, 0, n, api.ErrLimit, 3)
	}
	for _, n := range []int{4, 5, 1000, 1 << 32, 1<<32 + 1, math.MaxInt - 4, math.MaxInt - 3, math.MaxInt} {
		wantRelease(t, q, 0, n, api.ErrState, 3)
	}
	for _, kind := range absent(2) {
		for _, n := range []int{0, 1, math.MaxInt} {
			wantUse(t, q, kind, n, api.ErrNotFound, 0)
			wantRelease(t, q, kind, n, api.ErrNotFound, 0)
		}
	}
	wantUsed(t, q, 3, 9)
}

// P15.1, R1: where several errors apply, a nil quota is reported before the kind, and the kind before a negative n.
func TestErrorOrder(t *testing.T) {
	q := quota.New([]int{0, 2})
	for _, n := range negatives {
		for _, kind := range absent(2) {
			wantUse(t, q, kind, n, api.ErrNotFound, 0)
			wantRelease(t, q, kind, n, api.ErrNotFound, 0)
			wantUse(t, nil, kind, n, api.ErrNil, 0)
			wantRelease(t, nil, kind, n, api.ErrNil, 0)
		}
		for kind := range 2 {
			wantUse(t, nil, kind, n, api.ErrNil, 0)
			wantRelease(t, nil, kind, n, api.ErrNil, 0)
		}
	}
	wantUsed(t, q, 0, 0)
}

// P15.1: n uses are added and removed, also none.
func TestUseAndRelease(t *testing.T) {
	const limit = 12
	for before := range limit + 1 {
		for n := range limit + 2 {
			q := quota.New([]int{limit})
			wantUse(t, q, 0, before, api.OK, before)
			if before+n > limit {
				wantUse(t, q, 0, n, api.ErrLimit, before)
			} else {
				wantUse(t, q, 0, n, api.OK, before+n)
				wantRelease(t, q, 0, n, api.OK, before)
			}
			if n > before {
				wantRelease(t, q, 0, n, api.ErrState, before)
			} else {
				wantRelease(t, q, 0, n, api.OK, before-n)
				wantUse(t, q, 0, n, api.OK, before)
			}
		}
	}
}

// P15.1: Used changes nothing, also for kinds that there are not.
func TestUsed(t *testing.T) {
	q := quota.New([]int{1, 4, 0, math.MaxInt})
	wantUse(t, q, 1, 3, api.OK, 3)
	wantUse(t, q, 3, math.MaxInt, api.OK, math.MaxInt)
	for range 3 {
		wantUsed(t, q, 0, 3, 0, math.MaxInt)
		wantUsed(t, nil)
	}
	wantUse(t, q, 1, 1, api.OK, 4)
	wantRelease(t, q, 3, 1, api.OK, math.MaxInt-1)
}

// R3: New neither changes nor keeps the limits.
func TestLimitsAreNotRetained(t *testing.T) {
	all := []int{3, -4, 5, 77, 78}
	limits := all[:3]
	q := quota.New(limits)
	if !slices.Equal(all, []int{3, -4, 5, 77, 78}) {
		t.Fatalf("New changed the limits: %v", all)
	}
	for i := range all {
		all[i] = 1000 - 999*(i%2)
	}
	wantUse(t, q, 0, 4, api.ErrLimit, 0)
	wantUse(t, q, 1, 1, api.ErrLimit, 0)
	wantUse(t, q, 2, 5, api.OK, 5)
	clear(all)
	wantUse(t, q, 0, 3, api.OK, 3)
	wantUse(t, q, 2, 0, api.OK, 5)
	wantRelease(t, q, 2, 2, api.OK, 3)
	wantUse(t, q, 3, 0, api.ErrNotFound, 0)
	if !slices.Equal(all, make([]int, 5)) {
		t.Fatalf("a call changed the limits: %v", all)
	}
	wantUsed(t, q, 3, 0, 3)
}

// R6: two quotas, also of the same limits, do not influence each other.
func TestTwoQuotas(t *testing.T) {
	limits := []int{2, 3}
	a, b := quota.New(limits), quota.New(limits)
	wantUse(t, a, 0, 2, api.OK, 2)
	wantUsed(t, b, 0, 0)
	wantUse(t, b, 1, 3, api.OK, 3)
	wantUsed(t, a, 2, 0)
	wantRelease(t, b, 0, 1, api.ErrState, 0)
	wantUse(t, b, 0, 1, api.OK, 1)
	wantRelease(t, a, 0, 1, api.OK, 1)
	wantUse(t, a, 1, 3, api.OK, 3)
	wantUsed(t, a, 1, 3)
	wantUsed(t, b, 1, 3)
}

// P15.1, R4: for a nil quota, and for one that New did not create, Use and Release return ErrNil and Used 0.
func TestQuotaNotCreated(t *testing.T) {
	q := quota.New([]int{5, 6})
	wantUse(t, q, 0, 2, api.OK, 2)
	duplicate := *q
	for _, x := range []*quota.Quota{nil, {}, new(quota.Quota), &duplicate} {
		for range 2 {
			for _, kind := range append(absent(2), 0, 1) {
				for _, n := range []int{math.MinInt, -1, 0, 1, 2, math.MaxInt} {
					wantUse(t, x, kind, n, api.ErrNil, 0)
					wantRelease(t, x, kind, n, api.ErrNil, 0)
				}
			}
			wantUsed(t, x)
		}
	}
	wantUsed(t, q, 2, 0)
	wantUse(t, q, 0, 3, api.OK, 5)
}

// P15.3: a call that returns an error changes nothing, and a call for one kind leaves the others alone.
func TestKindsAreIndependent(t *testing.T) {
	for kinds := 1; kinds <= 20; kinds++ {
		limits, counts := make([]int, kinds), make([]int, kinds)
		for i := range limits {
			limits[i], counts[i] = 10+i, 5+i
		}
		q := quota.New(limits)
		for i, n := range counts {
			wantUse(t, q, i, n, api.OK, n)
		}
		for i, n := range counts {
			wantErrno(t, "Use beyond the limit", q.Use(i, 6), api.ErrLimit)
			wantErrno(t, "Use of less than none", q.Use(i, -1), api.ErrRange)
			wantErrno(t, "Release of too many", q.Release(i, n+1), api.ErrState)
			wantErrno(t, "Release of less than none", q.Release(i, -n-1), api.ErrRange)
			wantErrno(t, "Use of no kind", q.Use(i-kinds, 1), api.ErrNotFound)
			wantErrno(t, "Release of no kind", q.Release(i+kinds, 1), api.ErrNotFound)
			wantUsed(t, q, counts...)
			counts[i] = 3 * (i % 2)
			wantErrno(t, "Release", q.Release(i, n-counts[i]), api.OK)
			wantUsed(t, q, counts...)
			wantErrno(t, "Use", q.Use(i, limits[i]-counts[i]), api.OK)
			counts[i] = limits[i]
			wantUsed(t, q, counts...)
		}
	}
}

// P15.1, P15.3: all sequences of five calls out of nine.
func TestShortSequences(t *testing.T) {
	calls := []call{{false, 0, 1}, {false, 0, 2}, {true, 0, 1}, {true, 0, 2}, {false, 1, 1}, {true, 1, 1}, {false, 0, -1}, {true, 1, 0}, {false, 2, 0}}
	var walk func(done []call)
	walk = func(done []call) {
		if len(done) < 5 {
			for _, c := range calls {
				walk(append(done, c))
			}
			return
		}
		p := newPair(2, 1)
		for _, c := range done {
			p.do(t, c)
		}
	}
	walk(make([]call, 0, 5))
}

// numbers are limits and arguments at which calculations could go wrong.
var numbers = []int{math.MinInt, math.MinInt + 1, math.MinInt32, -2, -1, 0, 1, 2, 3, 4, 5, 7, 100, math.MaxInt32, 1 << 32, 1 << 62, 1<<62 + 1, math.MaxInt - 2, math.MaxInt - 1, math.MaxInt}

// randomCall returns a call, mostly for a kind that there is and with a number near its count or its limit.
func randomCall(random *rand.Rand, p *pair) call {
	c := call{random.IntN(2) == 0, random.IntN(len(p.model.limits)+1) - random.IntN(20)/19, numbers[random.IntN(len(numbers))]}
	if c.kind < 0 || c.kind >= len(p.model.limits) {
		return c
	}
	count, limit := p.Used(c.kind), max(p.model.limits[c.kind], 0)
	switch random.IntN(6) {
	case 0:
		c.n = random.IntN(10)
	case 1:
		c.n = limit - count
	case 2:
		c.n = limit - count + 1 // the least int, if the room is the greatest one
	case 3:
		c.n = count
	case 4:
		c.n = count + 1
	}
	return c
}

// P15.1, P15.3: random sequences of calls have the results and the counts of the model.
func TestRandomSequences(t *testing.T) {
	random := rand.New(rand.NewPCG(15, 1))
	for range 2000 {
		limits := make([]int, random.IntN(6))
		for i := range limits {
			limits[i] = numbers[random.IntN(len(numbers))]
			if random.IntN(2) == 0 {
				limits[i] = random.IntN(30)
			}
		}
		p := newPair(limits...)
		for range random.IntN(100) {
			p.do(t, randomCall(random, p))
		}
	}
}

func FuzzQuota(f *testing.F) {
	f.Add([]byte{2, 7, 5, 0, 0, 7, 0, 0, 6, 0, 1, 5, 1, 0, 8})
	f.Add([]byte{3, 19, 18, 0, 0, 15, 0, 0, 15, 1, 0, 16, 0, 0, 19})
	f.Fuzz(func(t *testing.T, data []byte) {
		if len(data) == 0 {
			return
		}
		kinds := min(int(data[0])%8, len(data)-1)
		limits := make([]int, kinds)
		for i, b := range data[1 : kinds+1] {
			limits[i] = numbers[int(b)%len(numbers)]
		}
		p := newPair(limits...)
		for data = data[kinds+1:]; len(data) >= 3 && len(p.model.calls) < 300; data = data[3:] {
			p.do(t, call{data[0]%2 == 1, int(data[1])%(kinds+3) - 1, numbers[int(data[2])%len(numbers)]})
		}
	})
}
