package quota

const (
	token    = 1000    // thousandths of a token, the unit of levels
	maxRate  = 1 << 20 // the greatest rate of a bucket
	maxBurst = 1 << 20 // the greatest burst of a bucket
)

// Bucket is a token bucket: tokens are taken from it, and it fills up again at its rate until its level is its burst.
type Bucket struct {
	rate    int     // thousandths of a token for each millisecond
	full    int     // the burst, in thousandths of a token
	level   int     // from 0 to full, in thousandths of a token
	started bool    // whether a time was given
	latest  int     // the latest time that was given
	self    *Bucket // tells the buckets that NewBucket returned from all others, copies among them
}

// NewBucket returns a full bucket with a rate from 0 to 2^20 tokens a second and a burst from 1 to 2^20 tokens, or nil if one of them is out of its range.
func NewBucket(rate int, burst int) *Bucket {
	if rate < 0 || rate > maxRate || burst < 1 || burst > maxBurst {
		return nil
	}
	b := &Bucket{rate: rate, full: burst * token, level: burst * token}
	b.self = b
	return b
}

func (b *Bucket) created() bool {
	return b != nil && b.self == b
}

// Take removes n tokens and reports true, unless n is negative or the bucket has less than n tokens at the time now, in milliseconds.
func (b *Bucket) Take(now int, n int) bool {
	if !b.created() {
		return false
	}
	b.advance(now)
	if n < 0 || n > b.level/token {
		return false
	}
	b.level -= n * token
	return true
}

// Level returns the number of whole tokens at the time now, in milliseconds.
func (b *Bucket) Level(now int) int {
	if !b.created() {
		return 0
	}
	b.advance(now)
	return b.level / token
}

// advance records the time now, and fills the bucket for the time that has passed since the latest one.
func (b *Bucket) advance(now int) {
	if !b.started {
		b.started, b.latest = true, now
	}
	if now <= b.latest {
		return
	}
	// Two times may be farther apart than the greatest int, but not than the greatest uint.
	b.fill(uint(now) - uint(b.latest))
	b.latest = now
}

// fill adds what the bucket gains in the elapsed milliseconds, up to its burst.
func (b *Bucket) fill(elapsed uint) {
	rate, space := uint(b.rate), uint(b.full-b.level)
	if rate == 0 {
		return
	}
	// The product of rate and elapsed may be too large for a number, but not where it fits into the bucket.
	if elapsed > space/rate {
		b.level = b.full
		return
	}
	b.level += int(rate * elapsed)
}
