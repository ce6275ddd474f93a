package rate_test

import (
	"math"
	"math/big"
	"math/rand"
	"testing"

	"lingua/api"
	"lingua/rate"
)

// number is the greatest rate and burst, last the greatest step.
const (
	number = 1 << 40
	last   = 1 << 30
)

// at is a bucket.
func at(level, step int) rate.Bucket { return rate.Bucket{Level: level, Step: step} }

// limits are a bucket, its rate and its burst.
type limits struct {
	b           rate.Bucket
	rate, burst int
}

// right is the definition of right limits.
func (l limits) right() bool {
	for _, n := range []int{l.rate, l.burst} {
		if n < 0 || n > number {
			return false
		}
	}
	return l.b.Level >= 0 && l.b.Level <= l.burst && l.b.Step >= 0 && l.b.Step <= last
}

// places is the definition of the places at a step that is not before the bucket's, in numbers of any length.
func (l limits) places(step int) int {
	came := new(big.Int).Mul(big.NewInt(int64(step-l.b.Step)), big.NewInt(int64(l.rate)))
	sum := came.Add(came, big.NewInt(int64(l.b.Level)))
	if sum.Cmp(big.NewInt(int64(l.burst))) > 0 {
		return l.burst
	}
	return int(sum.Int64())
}

// free is Free.
func (l limits) free(step int) (int, api.Errno) {
	if !l.right() {
		return 0, api.ErrArg
	}
	if step < 0 || step > last {
		return 0, api.ErrRange
	}
	if step < l.b.Step {
		return 0, api.ErrLate
	}
	return l.places(step), api.OK
}

// take is Take.
func (l limits) take(step, n int) (rate.Bucket, api.Errno) {
	if n < 0 {
		return l.b, api.ErrArg
	}
	free, e := l.free(step)
	if e == api.OK && n > free {
		e = api.ErrFull
	}
	if e != api.OK {
		return l.b, e
	}
	return at(free-n, step), api.OK
}

// expectFree expects that Free says what the model says.
func expectFree(t *testing.T, l limits, step int) {
	t.Helper()
	want, wantE := l.free(step)
	if got, e := rate.Free(l.b, l.rate, l.burst, step); got != want || e != wantE {
		t.Fatalf("%+v: Free(%d) = %d, %v, want %d, %v", l, step, got, e, want, wantE)
	}
}

// expectTake expects that Take does what the model does.
func expectTake(t *testing.T, l limits, step, n int) {
	t.Helper()
	want, wantE := l.take(step, n)
	if got, e := rate.Take(l.b, l.rate, l.burst, step, n); got != want || e != wantE {
		t.Fatalf("%+v: Take(%d, %d) = %v, %v, want %v, %v", l, step, n, got, e, want, wantE)
	}
}

// expectNext expects that Next returns what P9.4 says, by the places of the model: these never become less, so that it is enough to look at the step before, and at the last one.
func expectNext(t *testing.T, l limits, n int) {
	t.Helper()
	got, e := rate.Next(l.b, l.rate, l.burst, n)
	ok := false
	switch {
	case !l.right() || n < 0:
		ok = e == api.ErrArg && got == 0
	case l.places(last) < n:
		ok = e == api.ErrFull && got == 0
	default:
		ok = e == api.OK && got >= l.b.Step && got <= last && l.places(got) >= n && (got == l.b.Step || l.places(got-1) < n)
	}
	if !ok {
		t.Fatalf("%+v: Next(%d) = %d, %v", l, n, got, e)
	}
}

// expectAll expects that all functions agree with the model at these steps and for these numbers of places.
func expectAll(t *testing.T, l limits, steps, counts []int) {
	t.Helper()
	if got := rate.Right(l.b, l.rate, l.burst); got != l.right() {
		t.Fatalf("%+v: Right = %v", l, got)
	}
	for _, step := range steps {
		expectFree(t, l, step)
		for _, n := range counts {
			expectTake(t, l, step, n)
		}
	}
	for _, n := range counts {
		expectNext(t, l, n)
	}
}

// TestExamples is about the chapter's examples.
func TestExamples(t *testing.T) {
	b, e := rate.Take(at(10, 0), 3, 10, 0, 4)
	if b != at(6, 0) || e != api.OK {
		t.Fatal(b, e)
	}
	if same, e := rate.Take(b, 3, 10, 0, 9); same != b || e != api.ErrFull {
		t.Error(same, e)
	}
	b, e = rate.Take(b, 3, 10, 1, 9)
	if b != at(0, 1) || e != api.OK {
		t.Fatal(b, e)
	}
	for _, c := range [][2]int{{2, 3}, {4, 9}, {5, 10}, {1 << 30, 10}} {
		if free, e := rate.Free(b, 3, 10, c[0]); free != c[1] || e != api.OK {
			t.Error(c, free, e)
		}
	}
	for _, c := range [][2]int{{0, 1}, {3, 2}, {4, 3}, {10, 5}} {
		if step, e := rate.Next(b, 3, 10, c[0]); step != c[1] || e != api.OK {
			t.Error(c, step, e)
		}
	}
	if step, e := rate.Next(b, 3, 10, 11); step != 0 || e != api.ErrFull {
		t.Error(step, e)
	}
}

// wrong are limits that are not right, each by one number that is just out of its range or far from it.
var wrong = []limits{
	{at(0, 0), -1, 10}, {at(0, 0), number + 1, 10}, {at(0, 0), math.MinInt, 10}, {at(0, 0), math.MaxInt, 10}, {at(0, 0), 1 << 41, 10},
	{at(0, 0), 3, -1}, {at(0, 0), 3, number + 1}, {at(0, 0), 3, math.MinInt}, {at(0, 0), 3, math.MaxInt}, {at(-1, 0), 3, -1}, {at(-2, 0), 3, -1},
	{at(-1, 0), 3, 10}, {at(11, 0), 3, 10}, {at(math.MinInt, 0), 3, 10}, {at(math.MaxInt, 0), 3, 10}, {at(1, 0), 3, 0}, {at(number+1, 0), 3, number},
	{at(0, -1), 3, 10}, {at(0, last+1), 3, 10}, {at(0, math.MinInt), 3, 10}, {at(0, math.MaxInt), 3, 10}, {at(0, 1<<32), 3, 10},
	{at(number+1, 0), 3, number + 1}, {at(math.MaxInt, math.MaxInt), math.MaxInt, math.MaxInt}, {at(math.MinInt, math.MinInt), math.MinInt, math.MinInt},
}

// TestRight is about P9.1: what is just within a range is right, and what is just out of it is not.
func TestRight(t *testing.T) {
	for _, l := range []limits{
		{at(0, 0), 0, 0}, {at(0, 0), 0, 1}, {at(1, 0), 0, 1}, {at(0, 0), 1, 0}, {at(0, 0), number, 0}, {at(0, 0), 0, number},
		{at(number, 0), 0, number}, {at(10, 0), 3, 10}, {at(0, last), 3, 10}, {at(number, last), number, number}, {at(1, 1), 1, 2},
	} {
		if !rate.Right(l.b, l.rate, l.burst) {
			t.Errorf("%+v is right", l)
		}
	}
	for _, l := range wrong {
		if rate.Right(l.b, l.rate, l.burst) {
			t.Errorf("%+v is not right", l)
		}
	}
}

// TestErrors is about P9.2 to P9.4 for what is not right, whatever else is wrong with the call: the first error is returned, and of Take the bucket as it was.
func TestErrors(t *testing.T) {
	steps := []int{math.MinInt, -1, 0, 1, 9, 10, last, last + 1, 1 << 32, math.MaxInt}
	counts := []int{math.MinInt, -1, 0, 1, 10, 11, number + 1, math.MaxInt}
	for _, l := range wrong {
		for _, step := range steps {
			if free, e := rate.Free(l.b, l.rate, l.burst, step); free != 0 || e != api.ErrArg {
				t.Errorf("%+v: Free(%d) = %d, %v", l, step, free, e)
			}
			for _, n := range counts {
				if b, e := rate.Take(l.b, l.rate, l.burst, step, n); b != l.b || e != api.ErrArg {
					t.Errorf("%+v: Take(%d, %d) = %v, %v", l, step, n, b, e)
				}
			}
		}
		for _, n := range counts {
			if step, e := rate.Next(l.b, l.rate, l.burst, n); step != 0 || e != api.ErrArg {
				t.Errorf("%+v: Next(%d) = %d, %v", l, n, step, e)
			}
		}
	}
	b := at(4, 10)
	for _, c := range []struct {
		step, n int
		free    api.Errno
		take    api.Errno
	}{
		{-1, -1, api.ErrRange, api.ErrArg}, {9, -1, api.ErrLate, api.ErrArg}, {10, -1, api.OK, api.ErrArg}, {10, math.MinInt, api.OK, api.ErrArg},
		{-1, 0, api.ErrRange, api.ErrRange}, {-1, 99, api.ErrRange, api.ErrRange}, {last + 1, 0, api.ErrRange, api.ErrRange}, {last + 1, 99, api.ErrRange, api.ErrRange},
		{math.MinInt, 0, api.ErrRange, api.ErrRange}, {math.MaxInt, 0, api.ErrRange, api.ErrRange}, {1<<32 + 10, 0, api.ErrRange, api.ErrRange},
		{9, 0, api.ErrLate, api.ErrLate}, {0, 99, api.ErrLate, api.ErrLate}, {9, 4, api.ErrLate, api.ErrLate},
		{10, 5, api.OK, api.ErrFull}, {12, 11, api.OK, api.ErrFull}, {last, 11, api.OK, api.ErrFull}, {last, math.MaxInt, api.OK, api.ErrFull},
		{10, 4, api.OK, api.OK}, {12, 10, api.OK, api.OK}, {last, 10, api.OK, api.OK},
	} {
		if free, e := rate.Free(b, 3, 10, c.step); e != c.free || e != api.OK && free != 0 {
			t.Errorf("Free(%d) = %d, %v", c.step, free, e)
		}
		if got, e := rate.Take(b, 3, 10, c.step, c.n); e != c.take || e != api.OK && got != b {
			t.Errorf("Take(%d, %d) = %v, %v", c.step, c.n, got, e)
		}
	}
	for _, n := range []int{-1, math.MinInt} {
		if step, e := rate.Next(b, 3, 10, n); step != 0 || e != api.ErrArg {
			t.Errorf("Next(%d) = %d, %v", n, step, e)
		}
	}
}

// TestNoRate is about a rate or a burst of 0: nothing comes, or nothing is kept.
func TestNoRate(t *testing.T) {
	for _, step := range []int{5, 6, last} {
		if free, e := rate.Free(at(4, 5), 0, 10, step); free != 4 || e != api.OK {
			t.Error(step, free, e)
		}
		if free, e := rate.Free(at(0, 5), 10, 0, step); free != 0 || e != api.OK {
			t.Error(step, free, e)
		}
	}
	for _, c := range []struct {
		b              rate.Bucket
		rate, burst, n int
		step           int
		e              api.Errno
	}{
		{at(4, 5), 0, 10, 0, 5, api.OK}, {at(4, 5), 0, 10, 4, 5, api.OK}, {at(4, 5), 0, 10, 5, 0, api.ErrFull}, {at(4, 5), 0, 10, 11, 0, api.ErrFull},
		{at(0, 5), 10, 0, 0, 5, api.OK}, {at(0, 5), 10, 0, 1, 0, api.ErrFull}, {at(0, 5), 0, 0, 0, 5, api.OK}, {at(0, 5), 0, 0, 1, 0, api.ErrFull},
	} {
		if step, e := rate.Next(c.b, c.rate, c.burst, c.n); step != c.step || e != c.e {
			t.Errorf("%+v: %d, %v", c, step, e)
		}
	}
}

// TestLastStep is about P9.4 near the greatest step: what is there only after it is never there.
func TestLastStep(t *testing.T) {
	for _, c := range []struct {
		b              rate.Bucket
		rate, burst, n int
		step           int
		e              api.Errno
	}{
		{at(0, last), 3, 10, 0, last, api.OK}, {at(2, last), 3, 10, 2, last, api.OK}, {at(2, last), 3, 10, 3, 0, api.ErrFull},
		{at(2, last-1), 3, 10, 5, last, api.OK}, {at(2, last-1), 3, 10, 6, 0, api.ErrFull},
		{at(0, 0), 1, number, last, last, api.OK}, {at(0, 0), 1, number, last + 1, 0, api.ErrFull}, {at(1, 0), 1, number, last + 1, last, api.OK},
		{at(0, 0), 1024, number, number, last, api.OK}, {at(0, 0), 1023, number, number, 0, api.ErrFull}, {at(0, 1), 1024, number, number, 0, api.ErrFull}, {at(1024, 1), 1024, number, number, last, api.OK},
		{at(0, 0), number, number, number, 1, api.OK}, {at(0, last-1), number, number, number, last, api.OK}, {at(0, 0), number, number, number + 1, 0, api.ErrFull}, {at(0, 0), number, number, math.MaxInt, 0, api.ErrFull},
	} {
		if step, e := rate.Next(c.b, c.rate, c.burst, c.n); step != c.step || e != c.e {
			t.Errorf("%+v: %d, %v", c, step, e)
		}
	}
}

// eachSmall calls f for limits of small numbers, all of them.
func eachSmall(f func(l limits)) {
	for perStep := range 5 {
		for burst := range 8 {
			for level := range burst + 1 {
				for step := range 3 {
					f(limits{at(level, step), perStep, burst})
				}
			}
		}
	}
}

// TestEveryStep is about P9.2 to P9.4: what a bucket has is counted place by place, which comes if it is not full.
func TestEveryStep(t *testing.T) {
	eachSmall(func(l limits) {
		level := l.b.Level
		first := map[int]int{}
		for step := l.b.Step; step <= l.b.Step+9; step++ {
			if free, e := rate.Free(l.b, l.rate, l.burst, step); free != level || e != api.OK {
				t.Fatalf("%+v: Free(%d) = %d, %v, want %d", l, step, free, e, level)
			}
			for n := range l.burst + 3 {
				if _, ok := first[n]; n <= level && !ok {
					first[n] = step
				}
				b, e := rate.Take(l.b, l.rate, l.burst, step, n)
				if n > level && (b != l.b || e != api.ErrFull) || n <= level && (b != at(level-n, step) || e != api.OK) {
					t.Fatalf("%+v: Take(%d, %d) = %v, %v of %d", l, step, n, b, e, level)
				}
			}
			for range l.rate {
				if level < l.burst {
					level++
				}
			}
		}
		for n := range l.burst + 3 {
			step, e := rate.Next(l.b, l.rate, l.burst, n)
			if want, ok := first[n]; step != want || (e == api.OK) != ok || !ok && e != api.ErrFull {
				t.Fatalf("%+v: Next(%d) = %d, %v, want %d", l, n, step, e, want)
			}
		}
	})
}

// TestEdges is about all promises at the limits of all numbers, where products have up to 70 bits.
func TestEdges(t *testing.T) {
	numbers := []int{-1, 0, 1, 3, 1023, 1024, 1025, 1 << 33, 1<<34 - 1, 1 << 34, number - 1, number, number + 1}
	steps := []int{-1, 0, 1, 2, 1 << 29, last - 1, last, last + 1}
	for _, perStep := range numbers {
		for _, burst := range numbers {
			for _, level := range []int{-1, 0, 1, burst / 2, burst - 1, burst, burst + 1} {
				for _, step := range steps {
					expectAll(t, limits{at(level, step), perStep, burst}, steps, append([]int{math.MinInt, level, burst, burst + 1, math.MaxInt}, numbers...))
				}
			}
		}
	}
}

// randomNumber returns a number up to a limit, often one with few digits.
func randomNumber(r *rand.Rand, limit int) int {
	return r.Intn(limit>>r.Intn(30) + 1)
}

// TestRandom is about all promises with random numbers of all sizes.
func TestRandom(t *testing.T) {
	r := rand.New(rand.NewSource(9))
	found, none := 0, 0
	for range 20000 {
		burst := randomNumber(r, number)
		l := limits{at(randomNumber(r, burst), randomNumber(r, last)), randomNumber(r, number), burst}
		counts := []int{randomNumber(r, number), randomNumber(r, burst), l.b.Level + 1}
		steps := []int{randomNumber(r, last), l.b.Step + randomNumber(r, last-l.b.Step), l.b.Step + 1}
		for _, n := range counts {
			if step, e := rate.Next(l.b, l.rate, l.burst, n); e == api.OK {
				found++
				steps = append(steps, step-1, step, step+1)
			} else {
				none++
			}
		}
		expectAll(t, l, steps, counts)
		for _, step := range steps {
			if free, e := rate.Free(l.b, l.rate, l.burst, step); e == api.OK {
				expectTake(t, l, step, free)
				expectTake(t, l, step, free+1)
			}
		}
	}
	if found < 20000 || none < 5000 {
		t.Error(found, none)
	}
}

// TestTaken is about P9.6: whatever is taken one after the other is not more than came, and what was there.
func TestTaken(t *testing.T) {
	r := rand.New(rand.NewSource(10))
	full := 0
	for round := range 2000 {
		burst, perStep := randomNumber(r, number), randomNumber(r, number)
		start := randomNumber(r, last/2)
		level := burst * (round % 2)
		b := at(level, start)
		sum := new(big.Int)
		for range 20 {
			step := min(b.Step+r.Intn(3)*randomNumber(r, 100), last)
			n := randomNumber(r, 2*burst)
			if free, _ := rate.Free(b, perStep, burst, step); r.Intn(2) == 0 {
				n = free
			}
			after, e := rate.Take(b, perStep, burst, step, n)
			if e != api.OK {
				continue
			}
			b = after
			if n > burst || b.Level > burst {
				t.Fatalf("%d at once, %v with the burst %d", n, b, burst)
			}
			sum.Add(sum, big.NewInt(int64(n)))
			came := new(big.Int).Mul(big.NewInt(int64(step-start)), big.NewInt(int64(perStep)))
			came.Add(came, big.NewInt(int64(level)))
			if sum.Cmp(came) > 0 {
				t.Fatalf("%v taken until %d, where %v came (rate %d, burst %d)", sum, step-start, came, perStep, burst)
			}
			if sum.Cmp(came) == 0 && n > 0 {
				full++
			}
		}
	}
	if full < 100 {
		t.Error(full, "times all that came was taken")
	}
}

// TestNothingTaken is about P9.7: a step at which nothing is taken changes nothing, and what can be taken can be taken later, too.
func TestNothingTaken(t *testing.T) {
	eachSmall(func(l limits) {
		for pause := l.b.Step; pause < l.b.Step+5; pause++ {
			idle, e := rate.Take(l.b, l.rate, l.burst, pause, 0)
			if e != api.OK || idle.Step != pause {
				t.Fatalf("%+v: Take(%d, 0) = %v, %v", l, pause, idle, e)
			}
			for step := pause; step < pause+5; step++ {
				for n := range l.burst + 2 {
					with, e := rate.Take(idle, l.rate, l.burst, step, n)
					without, plain := rate.Take(l.b, l.rate, l.burst, step, n)
					if e != plain || e == api.OK && with != without {
						t.Fatalf("%+v: with a pause at %d Take(%d, %d) = %v, %v, without %v, %v", l, pause, step, n, with, e, without, plain)
					}
					if _, early := rate.Take(l.b, l.rate, l.burst, pause, n); early == api.OK && plain != api.OK {
						t.Fatalf("%+v: Take(%d, %d) is OK, at %d %v", l, pause, n, step, plain)
					}
				}
			}
		}
	})
}

// TestTwoParts is about P9.7: taking two parts at a step is the same as taking their sum.
func TestTwoParts(t *testing.T) {
	eachSmall(func(l limits) {
		for step := l.b.Step; step < l.b.Step+5; step++ {
			for n := range l.burst + 2 {
				whole, e := rate.Take(l.b, l.rate, l.burst, step, n)
				for part := range n + 1 {
					half, first := rate.Take(l.b, l.rate, l.burst, step, part)
					both, second := rate.Take(half, l.rate, l.burst, step, n-part)
					if ok := first == api.OK && second == api.OK; ok != (e == api.OK) || ok && both != whole {
						t.Fatalf("%+v: Take(%d, %d) = %v, %v, in the parts %d and %d %v, %v, %v", l, step, n, whole, e, part, n-part, both, first, second)
					}
				}
			}
		}
	})
}

// TestNext is about P9.8: Next is the step from which on Take is OK, up to the greatest one.
func TestNext(t *testing.T) {
	never := 0
	eachSmall(func(l limits) {
		for _, shift := range []int{0, last - 5} {
			l.b.Step += shift
			for n := range l.burst + 2 {
				from, e := rate.Next(l.b, l.rate, l.burst, n)
				if e != api.OK {
					from = last + 1
					never++
				}
				for _, step := range []int{l.b.Step, l.b.Step + 1, l.b.Step + 2, l.b.Step + 3, from - 1, from, from + 1, last - 1, last} {
					if step < l.b.Step || step > last {
						continue
					}
					if _, e := rate.Take(l.b, l.rate, l.burst, step, n); (e == api.OK) != (step >= from) {
						t.Fatalf("%+v: Take(%d, %d): %v, and Next is %d", l, step, n, e, from)
					}
				}
			}
		}
	})
	if never < 500 {
		t.Error(never)
	}
}
