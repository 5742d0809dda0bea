package quota_test

import (
	"math"
	"math/big"
	"math/rand/v2"
	"slices"
	"testing"

	"compositor/quota"
)

const (
	mostRate  = 1 << 20
	mostBurst = 1 << 20
)

// moments are times at which calculations could go wrong.
var moments = []int{math.MinInt, math.MinInt + 1, -1 << 62, -1 << 44, math.MinInt32, -1000, -1, 0, 1, 2, 999, 1000, math.MaxInt32, 1 << 32, 1 << 44, 1 << 62, math.MaxInt - 1, math.MaxInt}

// A draw is one of Take and of Level.
type draw struct {
	level  bool
	now, n int
}

// on makes the call, and returns its result as a number: 1 for true.
func (d draw) on(b *quota.Bucket) int {
	switch {
	case d.level:
		return b.Level(d.now)
	case b.Take(d.now, d.n):
		return 1
	}
	return 0
}

// bucketModel has the definitions of the chapter, with unlimited integers.
type bucketModel struct {
	rate, burst int
	level       *big.Int // in thousandths of a token
	times       []int    // all recorded ones
	draws       []draw   // all successful calls of Take, with the times at which they count
}

func newBucketModel(rate, burst int) *bucketModel {
	return &bucketModel{rate: rate, burst: burst, level: thousandths(burst)}
}

// thousandths returns n tokens as thousandths of a token.
func thousandths(n int) *big.Int {
	return new(big.Int).Mul(big.NewInt(int64(n)), big.NewInt(1000))
}

// gain returns what a bucket that is never full gains from one time to the other, in thousandths of a token.
func gain(rate, from, to int) *big.Int {
	elapsed := new(big.Int).Sub(big.NewInt(int64(to)), big.NewInt(int64(from)))
	return elapsed.Mul(elapsed, big.NewInt(int64(rate)))
}

// record records a time, and returns the one as which it counts.
func (m *bucketModel) record(now int) int {
	before := m.times
	m.times = append(m.times, now)
	latest := slices.Max(m.times)
	if len(before) > 0 {
		m.level.Add(m.level, gain(m.rate, slices.Max(before), latest))
	}
	if full := thousandths(m.burst); m.level.Cmp(full) > 0 {
		m.level = full
	}
	return latest
}

// on makes the call.
func (m *bucketModel) on(d draw) int {
	latest := m.record(d.now)
	if d.level {
		return int(new(big.Int).Quo(m.level, big.NewInt(1000)).Int64())
	}
	n := thousandths(d.n)
	if n.Sign() < 0 || m.level.Cmp(n) < 0 {
		return 0
	}
	m.level.Sub(m.level, n)
	m.draws = append(m.draws, draw{false, latest, d.n})
	return 1
}

// bucketPair is a bucket and the model of it.
type bucketPair struct {
	*quota.Bucket
	model *bucketModel
}

func newBucketPair(t *testing.T, rate, burst int) *bucketPair {
	t.Helper()
	return &bucketPair{newBucket(t, rate, burst), newBucketModel(rate, burst)}
}

// do makes the call on both and compares the results, and then the levels at the same time.
func (p *bucketPair) do(t *testing.T, d draw) {
	t.Helper()
	for _, x := range []draw{d, {level: true, now: d.now}} {
		if got, want := x.on(p.Bucket), p.model.on(x); got != want {
			t.Fatalf("rate %d, burst %d, call %+v: got %d, want %d", p.model.rate, p.model.burst, x, got, want)
		}
	}
}

// newBucket returns a bucket, which must not be nil.
func newBucket(t *testing.T, rate, burst int) *quota.Bucket {
	t.Helper()
	b := quota.NewBucket(rate, burst)
	if b == nil {
		t.Fatalf("NewBucket(%d, %d): nil", rate, burst)
	}
	return b
}

// wantTake and wantLevel check the result of one call.
func wantTake(t *testing.T, b *quota.Bucket, now, n int, want bool) {
	t.Helper()
	if got := b.Take(now, n); got != want {
		t.Fatalf("Take(%d, %d): %v, want %v", now, n, got, want)
	}
}

func wantLevel(t *testing.T, b *quota.Bucket, now, want int) {
	t.Helper()
	if got := b.Level(now); got != want {
		t.Fatalf("Level(%d): %d, want %d", now, got, want)
	}
}

// The chapter's examples 2 and 3.
func TestExampleBuckets(t *testing.T) {
	b := newBucket(t, 1000, 5)
	wantTake(t, b, 0, 5, true)
	wantTake(t, b, 0, 1, false)
	wantLevel(t, b, 2, 2)
	wantTake(t, b, 1, 2, true)
	wantLevel(t, b, 2, 0)
	b = newBucket(t, 1, 1)
	wantTake(t, b, 0, 1, true)
	wantLevel(t, b, 999, 0)
	wantLevel(t, b, 1000, 1)
}

// P15.2: NewBucket returns nil unless rate is between 0 and 2^20 and burst between 1 and 2^20.
func TestNewBucket(t *testing.T) {
	rates := map[bool][]int{
		true:  {0, 1, 2, 999, 1000, 1001, 1<<20 - 1, 1 << 20},
		false: {math.MinInt, math.MinInt + 1, -1 << 32, math.MinInt32, -1 << 20, -2, -1, 1<<20 + 1, 1 << 21, math.MaxInt32, 1 << 32, 1<<32 + 1, math.MaxInt - 1, math.MaxInt},
	}
	bursts := map[bool][]int{
		true:  {1, 2, 999, 1000, 1<<20 - 1, 1 << 20},
		false: append(slices.Clone(rates[false]), 0),
	}
	for _, rateOK := range []bool{true, false} {
		for _, burstOK := range []bool{true, false} {
			for _, rate := range rates[rateOK] {
				for _, burst := range bursts[burstOK] {
					b := quota.NewBucket(rate, burst)
					if (b != nil) != (rateOK && burstOK) {
						t.Fatalf("NewBucket(%d, %d): %v", rate, burst, b)
					}
					if b != nil {
						wantLevel(t, b, 0, burst)
						wantTake(t, b, 0, burst+1, false)
						wantTake(t, b, 0, burst, true)
						wantLevel(t, b, 1, min(rate/1000, burst))
					}
				}
			}
		}
	}
}

// P15.2: the first time, whichever it is, finds the burst and starts the clock.
func TestFirstTime(t *testing.T) {
	for _, first := range moments {
		for _, rate := range []int{0, 1, 1000, mostRate} {
			b := newBucket(t, rate, 7)
			wantLevel(t, b, first, 7)
			b = newBucket(t, rate, 7)
			wantTake(t, b, first, 8, false)
			wantTake(t, b, first, 7, true)
			wantLevel(t, b, first, 0)
			wantLevel(t, b, math.MinInt, 0)
			if first < math.MaxInt {
				wantLevel(t, b, first+1, min(rate/1000, 7))
			}
		}
	}
}

// P15.2: each call records its time, also one that returns false or a level, and also the first one.
func TestEveryCallRecords(t *testing.T) {
	for _, d := range []draw{{false, 100, -1}, {false, 100, math.MinInt}, {false, 100, 201}, {false, 100, math.MaxInt}, {false, 100, 0}, {true, 100, 0}} {
		b := newBucket(t, 1000, 5)
		d.on(b)
		wantTake(t, b, 98, 5, true) // counts as 100
		wantLevel(t, b, 99, 0)
		wantLevel(t, b, 100, 0)
		wantLevel(t, b, 101, 1)

		b = newBucket(t, 1000, 200)
		wantTake(t, b, 0, 200, true)
		d.on(b)
		wantLevel(t, b, 50, 100)
		wantTake(t, b, 0, 101, false)
		wantTake(t, b, math.MinInt, 100, true)
		wantLevel(t, b, 100, 0)
		wantLevel(t, b, 103, 3)
	}
}

// P15.2: nothing is gained at the same time, a thousandth of the rate in the next millisecond, and nothing at times that go back.
func TestElapsedTime(t *testing.T) {
	for _, rate := range []int{0, 1, 500, 999, 1000, 1001, 2000, 2500, mostRate} {
		for _, start := range []int{math.MinInt, math.MinInt + 1, -1, 0, 1, 123456, math.MaxInt - 3} {
			b := newBucket(t, rate, 10000)
			wantTake(t, b, start, 10000, true)
			wantLevel(t, b, start, 0)
			for i := range 3 {
				level := rate * (i + 1) / 1000
				wantLevel(t, b, start+i+1, level)
				wantLevel(t, b, start+i+1, level)
				wantLevel(t, b, start+i, level)
				wantLevel(t, b, start, level)
				wantLevel(t, b, math.MinInt, level)
				wantTake(t, b, start, level+1, false)
				wantTake(t, b, start+i+1, 0, true)
			}
		}
	}
}

// P15.2: a time that goes back and comes again gains nothing: it was counted before.
func TestTimesGoBack(t *testing.T) {
	b := newBucket(t, 1000, 10)
	wantTake(t, b, 50, 10, true)
	for _, now := range []int{49, 50, 0, 50, -50, 50, math.MinInt, 50} {
		wantLevel(t, b, now, 0)
	}
	wantLevel(t, b, 52, 2)
	for range 5 {
		wantLevel(t, b, 40, 2)
		wantTake(t, b, 51, 3, false)
		wantLevel(t, b, 52, 2)
	}
	wantTake(t, b, 10, 2, true)
	wantLevel(t, b, 52, 0)
	wantLevel(t, b, 53, 1)
}

// P15.2: times as far apart as ints can be, and products of rates and times that are beyond every int.
func TestDistantTimes(t *testing.T) {
	for _, burst := range []int{1, 1000, mostBurst} {
		for _, rate := range []int{1, 2, 3, 999, 1000, 1 << 10, 1 << 19, mostRate - 1, mostRate} {
			b := newBucket(t, rate, burst)
			wantTake(t, b, math.MinInt, burst, true)
			wantLevel(t, b, math.MaxInt, burst)
			wantTake(t, b, math.MinInt, burst, true)
			wantLevel(t, b, math.MaxInt, 0)
		}
	}
	for bit := range 63 {
		for rate := 1; rate <= mostRate; rate *= 2 {
			b := newBucket(t, rate, mostBurst)
			wantTake(t, b, math.MinInt, mostBurst, true)
			elapsed, want := 1<<bit, mostBurst
			if bit < 40 {
				want = min(want, elapsed*rate/1000)
			}
			wantLevel(t, b, math.MinInt+elapsed, want)
		}
	}
	b := newBucket(t, 0, 3)
	wantTake(t, b, math.MinInt, 2, true)
	wantLevel(t, b, math.MaxInt, 1)
}

// P15.2: the sum of a level and a gain is burst tokens at most, whichever of them would be above it.
func TestFull(t *testing.T) {
	b := newBucket(t, 1500, 1)
	wantTake(t, b, 0, 1, true)
	wantTake(t, b, 1, 1, true) // not one and a half
	wantLevel(t, b, 1, 0)
	wantLevel(t, b, 2, 1)
	wantTake(t, b, 2, 1, true)
	wantLevel(t, b, 2, 0)
	for burst := range 6 {
		for level := range burst + 1 {
			for elapsed := range burst + 3 {
				b := newBucket(t, 1000, burst+1)
				wantTake(t, b, 0, burst+1-level, true)
				wantLevel(t, b, elapsed, min(level+elapsed, burst+1))
				wantTake(t, b, elapsed, burst+2, false)
				wantTake(t, b, elapsed, min(level+elapsed, burst+1), true)
				wantTake(t, b, elapsed, 1, false)
				wantLevel(t, b, elapsed+1, 1)
			}
		}
	}
	b = newBucket(t, 1, 2) // full again after a time in which nothing could be gained
	wantLevel(t, b, 0, 2)
	wantTake(t, b, 1_000_000, 1, true)
	wantLevel(t, b, 1_000_999, 1)
	wantLevel(t, b, 1_001_000, 2)
}

// P15.2: Take of negative n, of none, of the level and of more.
func TestTake(t *testing.T) {
	for _, burst := range []int{1, 2, 10, 1000, mostBurst} {
		for _, taken := range []int{0, 1, burst / 2, burst - 1, burst} {
			b := newBucket(t, 0, burst)
			level := burst - taken
			wantTake(t, b, 0, taken, true)
			for _, n := range append(slices.Clone(negatives), level+1, burst+1, 2*burst+1, mostBurst+1, 1<<32, 1<<32+level, 1<<61, 1<<61+level, 1<<62, math.MaxInt/1000, math.MaxInt/1000+1, math.MaxInt-1, math.MaxInt) {
				wantTake(t, b, 0, n, false)
				wantLevel(t, b, 0, level)
			}
			wantTake(t, b, 0, 0, true)
			wantLevel(t, b, 0, level)
			wantTake(t, b, 0, level, true)
			wantTake(t, b, 0, 0, true)
			wantTake(t, b, 0, 1, false)
			wantLevel(t, b, 0, 0)
		}
	}
}

// P15.2: a Take that returns false removes nothing, also no part of a token.
func TestFailedTake(t *testing.T) {
	b := newBucket(t, 1, 2)
	wantTake(t, b, 0, 2, true)
	for now := range 1000 {
		wantTake(t, b, now, 1, false)
		wantTake(t, b, now, -1, false)
	}
	wantTake(t, b, 1000, 2, false)
	wantTake(t, b, 1000, 1, true)
	wantTake(t, b, 1999, 1, false)
	wantTake(t, b, 2000, 1, true)
}

// P15.2: the level is kept exactly: parts of a token are neither lost nor rounded, over many calls, and when tokens are taken.
func TestExactLevels(t *testing.T) {
	for _, rate := range []int{1, 2, 3, 7, 9, 13, 333, 499, 500, 501, 997, 999, 1001, 1003, 3333, 65537, mostRate - 1, mostRate} {
		for _, step := range []int{1, 2, 3, 7, 250} {
			b := newBucket(t, rate, mostBurst)
			wantTake(t, b, 0, mostBurst, true)
			taken := 0
			for i := range 3000 {
				now := (i + 1) * step
				level := rate*now/1000 - taken
				wantLevel(t, b, now, level)
				if i%5 == 4 || level > mostBurst/2 { // so that it is never full
					n := level - i%2*(level/2)
					wantTake(t, b, now, level+1, false)
					wantTake(t, b, now, n, true)
					taken += n
				}
			}
		}
	}
}

// P15.2: a bucket of rate 0 is never filled.
func TestRateZero(t *testing.T) {
	b := newBucket(t, 0, 9)
	left := 9
	for i, now := range moments {
		wantLevel(t, b, now, left)
		wantTake(t, b, now, left+1, false)
		if i%2 == 0 {
			wantTake(t, b, now, 1, true)
			left--
		}
	}
	wantLevel(t, b, math.MaxInt, left)
}

// R6: two buckets do not influence each other.
func TestTwoBuckets(t *testing.T) {
	a, b := newBucket(t, 1000, 5), newBucket(t, 1000, 5)
	wantTake(t, a, 10, 5, true)
	wantLevel(t, b, 0, 5)
	wantTake(t, b, 0, 4, true)
	wantLevel(t, a, 10, 0)
	wantLevel(t, b, 2, 3)
	wantLevel(t, a, 11, 1)
}

// P15.2, R4: for a nil bucket, and for one that NewBucket did not create, Take returns false and Level 0.
func TestBucketNotCreated(t *testing.T) {
	b := newBucket(t, 1000, 5)
	wantTake(t, b, 10, 1, true)
	duplicate := *b
	for _, x := range []*quota.Bucket{nil, {}, new(quota.Bucket), &duplicate, quota.NewBucket(-1, 5), quota.NewBucket(1, 0)} {
		for range 2 {
			for _, now := range moments {
				for _, n := range []int{math.MinInt, -1, 0, 1, 2, math.MaxInt} {
					wantTake(t, x, now, n, false)
				}
				wantLevel(t, x, now, 0)
			}
		}
	}
	wantLevel(t, b, 10, 4)
	wantLevel(t, b, 11, 5)
}

// P15.2: millisecond by millisecond, the level increases by the rate up to the burst.
func TestEveryMillisecond(t *testing.T) {
	random := rand.New(rand.NewPCG(15, 2))
	for range 500 {
		rate, burst := random.IntN(3000), 1+random.IntN(20)
		b := newBucket(t, rate, burst)
		level, now := burst*1000, random.IntN(100)-50
		wantLevel(t, b, now, burst)
		for range 100 {
			for range random.IntN(30) {
				now++
				level = min(level+rate, burst*1000)
			}
			n := random.IntN(burst + 2)
			wantTake(t, b, now, n, n*1000 <= level)
			if n*1000 <= level {
				level -= n * 1000
			}
			wantLevel(t, b, now, level/1000)
		}
	}
}

// randomDraw returns a call, mostly at a time near the latest one and with a number near the level.
func randomDraw(random *rand.Rand, p *bucketPair) draw {
	d := draw{random.IntN(4) == 0, moments[random.IntN(len(moments))], numbers[random.IntN(len(numbers))]}
	if len(p.model.times) > 0 && random.IntN(50) > 0 {
		d.now = slices.Max(p.model.times) + random.IntN(1<<random.IntN(20)) - random.IntN(3)
	}
	if level := int(p.model.level.Int64() / 1000); random.IntN(5) > 0 {
		d.n = level - random.IntN(level+2)*random.IntN(2) + random.IntN(2)
	}
	return d
}

// randomRate and randomBurst return numbers of every size.
func randomRate(random *rand.Rand) int {
	return random.IntN(1<<random.IntN(21)+1) * (1 - random.IntN(10)/9)
}

func randomBurst(random *rand.Rand) int {
	return 1 + random.IntN(1<<random.IntN(21))
}

// P15.2: random sequences of calls have the results of the model, and P15.4 for all of them.
func TestRandomDraws(t *testing.T) {
	random := rand.New(rand.NewPCG(15, 3))
	for range 3000 {
		p := newBucketPair(t, randomRate(random), randomBurst(random))
		for range random.IntN(100) {
			p.do(t, randomDraw(random, p))
		}
		checkTaken(t, p.model)
	}
}

// checkTaken checks P15.4 for the calls of a model: between any two times, at most burst + rate * elapsed / 1000 tokens are taken.
func checkTaken(t *testing.T, m *bucketModel) {
	t.Helper()
	for i, from := range m.draws {
		sum := big.NewInt(0)
		for _, to := range m.draws[i:] {
			sum.Add(sum, thousandths(to.n))
			most := gain(m.rate, from.now, to.now)
			if sum.Cmp(most.Add(most, thousandths(m.burst))) > 0 {
				t.Fatalf("rate %d, burst %d: %d thousandths are taken from %d to %d", m.rate, m.burst, sum, from.now, to.now)
			}
		}
	}
}

// P15.4: a client that takes as much as it can, as often as it can, gets no more than the burst and what the rate gives.
func TestGreedy(t *testing.T) {
	random := rand.New(rand.NewPCG(15, 4))
	for range 300 {
		rate, burst := randomRate(random), randomBurst(random)
		b, m := newBucket(t, rate, burst), newBucketModel(rate, burst)
		now := 0
		for range 200 {
			if n := b.Level(now); n > 0 {
				wantTake(t, b, now, n, true)
				m.draws = append(m.draws, draw{now: now, n: n})
			}
			now += random.IntN(1 << random.IntN(12))
		}
		checkTaken(t, m)
	}
}

// replayed returns a bucket after these calls.
func replayed(t *testing.T, rate, burst int, calls []draw) *quota.Bucket {
	t.Helper()
	b := newBucket(t, rate, burst)
	for _, d := range calls {
		d.on(b)
	}
	return b
}

// P15.4: taking in one call or in several calls at the same time has the same effect.
func TestTakeInParts(t *testing.T) {
	random := rand.New(rand.NewPCG(15, 5))
	for range 2000 {
		rate, burst := randomRate(random), randomBurst(random)
		var calls []draw
		now := 0
		for range random.IntN(5) {
			now += random.IntN(1 << random.IntN(12))
			calls = append(calls, draw{random.IntN(3) == 0, now, random.IntN(burst + 1)})
		}
		now += random.IntN(5000)
		level := replayed(t, rate, burst, calls).Level(now)
		for _, n := range []int{0, level / 2, level, level + 1, random.IntN(burst + 1)} {
			once, parts := replayed(t, rate, burst, calls), replayed(t, rate, burst, calls)
			all, at := true, now
			for rest := n; rest > 0; {
				part := min(rest, 1+random.IntN(n))
				all = parts.Take(at, part) && all
				rest -= part
				at = now - random.IntN(9) // which counts as now
			}
			if got := once.Take(now, n); got != all || got != (n <= level) {
				t.Fatalf("%d of %d tokens: %v in one call, %v in several ones", n, level, got, all)
			}
			for i := 0; all && i < 20; i++ {
				later := now + i*i
				wantLevel(t, parts, later, once.Level(later))
			}
		}
	}
}

// P15.2: calls of Level, and those of Take that return false, change nothing but the time.
func TestCallsBetween(t *testing.T) {
	random := rand.New(rand.NewPCG(15, 6))
	for range 500 {
		rate, burst := randomRate(random), randomBurst(random)
		a, b := newBucket(t, rate, burst), newBucket(t, rate, burst)
		wantLevel(t, a, 0, burst)
		wantLevel(t, b, 0, burst)
		now := 0
		for range 50 {
			next := now + random.IntN(1<<random.IntN(16))
			for range random.IntN(10) {
				between := now + random.IntN(next-now+1)
				b.Level(between)
				wantTake(t, b, between, -1-random.IntN(burst), false)
				wantTake(t, b, between, burst+1+random.IntN(burst), false)
			}
			now = next
			n := a.Level(now) / (1 + random.IntN(3))
			wantTake(t, a, now, n, true)
			wantTake(t, b, now, n, true)
			wantLevel(t, b, now, a.Level(now))
		}
	}
}

func FuzzBucket(f *testing.F) {
	f.Add(uint32(1000), uint32(4), []byte{7, 5, 0, 7, 1, 0, 9, 0, 1, 8, 2, 0})
	f.Add(uint32(1<<20), uint32(1<<20-1), []byte{0, 200, 0, 17, 0, 1, 0, 3, 0})
	f.Fuzz(func(t *testing.T, rate, burst uint32, data []byte) {
		p := newBucketPair(t, int(rate%(mostRate+1)), 1+int(burst%mostBurst))
		for ; len(data) >= 3 && len(p.model.times) < 300; data = data[3:] {
			d := draw{data[0]%2 == 1, int(data[0]), int(data[1])}
			if data[0] >= 200 {
				d.now = moments[int(data[2])%len(moments)]
			} else if len(p.model.times) > 0 {
				d.now = slices.Max(p.model.times) + int(data[2])*int(data[0]) - 1
			}
			if data[1] >= 128 {
				d.n = numbers[int(data[1])%len(numbers)]
			}
			p.do(t, d)
		}
		checkTaken(t, p.model)
	})
}
