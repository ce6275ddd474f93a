package share_test

import (
	"math"
	"math/big"
	"math/rand"
	"slices"
	"testing"

	"lingua/api"
	"lingua/share"
)

var prime = big.NewInt(api.Prime)

// The model calculates with numbers of any size, and finds polynomials by solving the equations for their coefficients.

// coefficients returns the coefficients of the polynomial of a secret.
func coefficients(secret, k, seed int) []*big.Int {
	modulus := new(big.Int).Lsh(big.NewInt(1), 31)
	x := new(big.Int).Mod(big.NewInt(int64(seed)), modulus) // from 0 on: Mod is Euclidean
	l := []*big.Int{big.NewInt(int64(secret))}
	for len(l) < k {
		x = new(big.Int).Mul(x, big.NewInt(1103515245))
		x.Add(x, big.NewInt(12345)).Mod(x, modulus)
		l = append(l, new(big.Int).Mod(x, prime))
	}
	return l
}

// modelSplit is Split.
func modelSplit(secret, k, n, seed int) ([]api.Share, api.Errno) {
	if secret < 0 || secret > 2147483646 || n < 1 || n > 20 || k < 1 || k > n {
		return nil, api.ErrArg
	}
	var l []api.Share
	for x := 1; x <= n; x++ {
		y := new(big.Int)
		for i, c := range coefficients(secret, k, seed) {
			power := new(big.Int).Exp(big.NewInt(int64(x)), big.NewInt(int64(i)), nil)
			y.Add(y, power.Mul(power, c))
		}
		l = append(l, api.Share{X: x, Y: int(y.Mod(y, prime).Int64())})
	}
	return l, api.OK
}

// equations returns a row for each share: the powers of its place, each of which belongs to a coefficient, and its value.
func equations(l []api.Share, k int) [][]*big.Int {
	var rows [][]*big.Int
	for _, s := range l {
		var row []*big.Int
		for i := range k {
			p := new(big.Int).Exp(big.NewInt(int64(s.X)), big.NewInt(int64(i)), prime)
			row = append(row, p)
		}
		rows = append(rows, append(row, big.NewInt(int64(s.Y))))
	}
	return rows
}

// solve reports whether the equations for k coefficients have a solution, and returns the first coefficient of one.
func solve(rows [][]*big.Int, k int) (int, bool) {
	done := 0 // the rows before it have a coefficient of their own each
	first := -1
	for c := range k {
		p := done
		for p < len(rows) && rows[p][c].Sign() == 0 {
			p++
		}
		if p == len(rows) {
			continue
		}
		rows[done], rows[p] = rows[p], rows[done]
		inverse := new(big.Int).ModInverse(rows[done][c], prime)
		for i := range rows[done] {
			rows[done][i].Mul(rows[done][i], inverse).Mod(rows[done][i], prime)
		}
		for r := range rows {
			if r == done {
				continue
			}
			times := new(big.Int).Set(rows[r][c])
			for i := range rows[r] {
				part := new(big.Int).Mul(times, rows[done][i])
				rows[r][i].Sub(rows[r][i], part).Mod(rows[r][i], prime)
			}
		}
		if c == 0 {
			first = done
		}
		done++
	}
	for _, row := range rows[done:] {
		if row[k].Sign() != 0 {
			return 0, false
		}
	}
	if first < 0 {
		return 0, true
	}
	return int(rows[first][k].Int64()), true
}

// modelCheck returns the errors that Join names before ErrFew.
func modelCheck(l []api.Share, k int) api.Errno {
	if k < 1 || k > 20 {
		return api.ErrArg
	}
	for _, s := range l {
		if s.X < 1 || s.X > 20 || s.Y < 0 || s.Y > 2147483646 {
			return api.ErrArg
		}
	}
	for i, s := range l {
		for _, other := range l[:i] {
			if s.X == other.X {
				return api.ErrTwice
			}
		}
	}
	return api.OK
}

// modelJoin is Join.
func modelJoin(l []api.Share, k int) (int, api.Errno) {
	if e := modelCheck(l, k); e != api.OK {
		return 0, e
	}
	if len(l) < k {
		return 0, api.ErrFew
	}
	secret, ok := solve(equations(l, k), k)
	if !ok {
		return 0, api.ErrCheck
	}
	return secret, api.OK
}

// modelFits is Fits.
func modelFits(l []api.Share, k, secret int) bool {
	if modelCheck(l, k) != api.OK || secret < 0 || secret > 2147483646 {
		return false
	}
	_, ok := solve(equations(append(slices.Clone(l), api.Share{X: 0, Y: secret}), k), k)
	return ok
}

// split returns the shares of Split, which must not refuse.
func split(t *testing.T, secret, k, n, seed int) []api.Share {
	t.Helper()
	l, e := share.Split(secret, k, n, seed)
	if e != api.OK || len(l) != n {
		t.Fatalf("Split(%d, %d, %d, %d) = %v, %v", secret, k, n, seed, l, e)
	}
	return l
}

func expectSplit(t *testing.T, secret, k, n, seed int) {
	t.Helper()
	l, e := share.Split(secret, k, n, seed)
	want, wantE := modelSplit(secret, k, n, seed)
	if !slices.Equal(l, want) || e != wantE {
		t.Fatalf("Split(%d, %d, %d, %d) = %v, %v, want %v, %v", secret, k, n, seed, l, e, want, wantE)
	}
}

func expectJoin(t *testing.T, l []api.Share, k int) {
	t.Helper()
	before := slices.Clone(l)
	secret, e := share.Join(l, k)
	if want, wantE := modelJoin(l, k); secret != want || e != wantE {
		t.Fatalf("Join(%v, %d) = %d, %v, want %d, %v", l, k, secret, e, want, wantE)
	}
	if !slices.Equal(l, before) {
		t.Fatalf("Join(%v, %d) has changed its argument to %v", before, k, l)
	}
}

func expectFits(t *testing.T, l []api.Share, k, secret int) {
	t.Helper()
	before := slices.Clone(l)
	if got, want := share.Fits(l, k, secret), modelFits(l, k, secret); got != want {
		t.Fatalf("Fits(%v, %d, %d) = %v, want %v", l, k, secret, got, want)
	}
	if !slices.Equal(l, before) {
		t.Fatalf("Fits(%v, %d, %d) has changed its argument to %v", before, k, secret, l)
	}
}

// TestExamples is about the chapter's examples.
func TestExamples(t *testing.T) {
	if l, e := share.Split(5, 1, 3, 9); e != api.OK || !slices.Equal(l, []api.Share{{X: 1, Y: 5}, {X: 2, Y: 5}, {X: 3, Y: 5}}) {
		t.Error("Split(5, 1, 3, 9) =", l, e)
	}
	for i, c := range []struct {
		l      []api.Share
		secret int
		e      api.Errno
	}{
		{[]api.Share{{X: 1, Y: 7}, {X: 2, Y: 9}}, 5, api.OK},
		{[]api.Share{{X: 1, Y: 7}, {X: 2, Y: 9}, {X: 3, Y: 11}}, 5, api.OK},
		{[]api.Share{{X: 1, Y: 7}, {X: 2, Y: 9}, {X: 3, Y: 12}}, 0, api.ErrCheck},
		{[]api.Share{{X: 1, Y: 7}}, 0, api.ErrFew},
		{[]api.Share{{X: 1, Y: 7}, {X: 1, Y: 7}}, 0, api.ErrTwice},
	} {
		if secret, e := share.Join(c.l, 2); secret != c.secret || e != c.e {
			t.Errorf("%d: Join = %d, %v", i, secret, e)
		}
	}
	one, two := []api.Share{{X: 1, Y: 7}}, []api.Share{{X: 1, Y: 7}, {X: 2, Y: 9}}
	if !share.Fits(one, 2, 5) || !share.Fits(one, 2, 6) || !share.Fits(two, 2, 5) || share.Fits(two, 2, 6) {
		t.Error("Fits")
	}
}

// TestSplitByHand is about P6.1, with numbers of the seed that were calculated by hand.
func TestSplitByHand(t *testing.T) {
	// The numbers of the seed 0: 12345, and 1103515245 * 12345 + 12345 modulo 2^31.
	const x1 = 12345
	const x2 = (1103515245*x1 + 12345) % (1 << 31)
	want := []api.Share{
		{X: 1, Y: (100 + x1 + x2) % api.Prime},
		{X: 2, Y: (100 + 2*x1 + 4*x2) % api.Prime},
		{X: 3, Y: (100 + 3*x1 + 9*x2) % api.Prime},
		{X: 4, Y: (100 + 4*x1 + 16*x2) % api.Prime},
	}
	if l, e := share.Split(100, 3, 4, 0); e != api.OK || !slices.Equal(l, want) {
		t.Error("Split(100, 3, 4, 0) =", l, e, "want", want)
	}
	if l, e := share.Split(1, 2, 2, 1); e != api.OK || !slices.Equal(l, []api.Share{{X: 1, Y: 1103527591}, {X: 2, Y: (1 + 2*1103527590) % api.Prime}}) {
		t.Error("Split(1, 2, 2, 1) =", l, e)
	}
}

// TestSplitArguments is about P6.1: every argument at the ends of its range, and out of it.
func TestSplitArguments(t *testing.T) {
	secrets := []int{math.MinInt, -api.Prime, -1, 0, 1, 5, api.Prime - 1, api.Prime, api.Prime + 1, 1 << 32, math.MaxInt}
	counts := []int{math.MinInt, math.MinInt32, -20, -1, 0, 1, 2, 3, 19, 20, 21, 22, 1 << 32, 1<<32 + 1, math.MaxInt}
	for _, secret := range secrets {
		for _, k := range counts {
			for _, n := range counts {
				expectSplit(t, secret, k, n, 7)
			}
		}
	}
	for n := range 23 {
		for k := range 25 {
			expectSplit(t, 1234567, k-1, n-1, n*k)
		}
	}
}

// TestSplitSeeds is about P6.1: a seed counts modulo 2^31, and the numbers that follow are not those of the field.
func TestSplitSeeds(t *testing.T) {
	for seed := -40; seed <= 40; seed++ {
		for _, base := range []int{0, 1 << 30, 1 << 31, 1 << 32, 1 << 62, -1 << 31, -1 << 62, math.MinInt + 40, math.MaxInt - 40} {
			expectSplit(t, 99, 4, 5, base+seed)
		}
	}
	for _, pair := range [][2]int{{0, 1 << 31}, {0, math.MinInt}, {-1, 1<<31 - 1}, {-1, math.MaxInt}, {5, 5 - 1<<31}, {-7, 1<<31 - 7}} {
		if a, b := split(t, 99, 5, 6, pair[0]), split(t, 99, 5, 6, pair[1]); !slices.Equal(a, b) {
			t.Error("the seeds", pair, "are the same:", a, b)
		}
	}
	// Seeds whose first or second number is Prime, 2^31 - 1: it is 0 in the field, but the next one follows from it.
	first := before(api.Prime)
	second := before(first)
	for i, want := range split(t, 5, 2, 20, first) {
		if want.Y != 5 {
			t.Error("the seed", first, "at", i+1, "gives", want)
		}
	}
	for _, seed := range []int{first, second, before(0), before(1), before(second)} {
		for k := 1; k <= 20; k++ {
			expectSplit(t, 5, k, 20, seed)
		}
	}
	r := rand.New(rand.NewSource(1))
	for range 2000 {
		n := 1 + r.Intn(20)
		expectSplit(t, r.Intn(api.Prime), 1+r.Intn(n), n, int(r.Uint64()))
	}
}

// before returns the number of a seed that x follows.
func before(x int) int {
	modulus := big.NewInt(1 << 31)
	v := big.NewInt(int64(x) - 12345)
	v.Mul(v, new(big.Int).ModInverse(big.NewInt(1103515245), modulus))
	return int(v.Mod(v, modulus).Int64())
}

// TestShortLists is about P6.2 and P6.3 with all lists of up to three shares, right and not, and R2.
func TestShortLists(t *testing.T) {
	var all []api.Share
	for _, x := range []int{0, 1, 2, 20, 21} {
		for _, y := range []int{-1, 0, 1, api.Prime - 1, api.Prime} {
			all = append(all, api.Share{X: x, Y: y})
		}
	}
	lists := [][]api.Share{nil}
	for from, length := 0, 0; length <= 3; length++ {
		to := len(lists)
		for _, l := range lists[from:to] {
			for _, k := range []int{-1, 0, 1, 2, 3, 4, 20, 21} {
				expectJoin(t, l, k)
				expectFits(t, l, k, 1)
			}
			if length == 3 {
				continue
			}
			for _, s := range all {
				lists = append(lists, append(slices.Clone(l), s))
			}
			for _, secret := range []int{math.MinInt, -1, 0, 2, api.Prime - 1, api.Prime, math.MaxInt} {
				expectFits(t, l, 1, secret)
				expectFits(t, l, 2, secret)
			}
		}
		from = to
	}
}

// TestExtremes is about P6.2, P6.3 and R1 with numbers far out of their ranges.
func TestExtremes(t *testing.T) {
	extremes := []int{math.MinInt, math.MinInt + 1, -1 << 32, math.MinInt32, math.MaxInt32, 1 << 32, 1<<32 + 1, 1<<62 + 1, math.MaxInt}
	good := []api.Share{{X: 1, Y: 7}, {X: 2, Y: 9}}
	for _, n := range extremes {
		for _, s := range []api.Share{{X: n, Y: 1}, {X: 3, Y: n}, {X: n, Y: n}} {
			for _, l := range [][]api.Share{{s}, {s, s}, append(slices.Clone(good), s), append([]api.Share{s}, good...)} {
				for k := range 5 {
					expectJoin(t, l, k)
					expectFits(t, l, k, 5)
				}
			}
		}
		expectJoin(t, good, n)
		expectFits(t, good, n, 5)
		expectFits(t, good, 2, n)
		expectFits(t, nil, 2, n)
	}
	if share.Fits([]api.Share{{X: 0, Y: 5}}, 3, 5) {
		t.Error("a share at 0 would be the secret, and is not right")
	}
}

// TestOrderOfErrors is about P6.2: the error that is named first is returned.
func TestOrderOfErrors(t *testing.T) {
	for i, c := range []struct {
		l []api.Share
		k int
		e api.Errno
	}{
		{[]api.Share{{X: 1, Y: 1}, {X: 1, Y: 2}, {X: 21, Y: 3}}, 9, api.ErrArg},
		{[]api.Share{{X: 1, Y: 1}, {X: 1, Y: 2}, {X: 2, Y: api.Prime}}, 9, api.ErrArg},
		{[]api.Share{{X: 1, Y: 1}, {X: 1, Y: 1}}, 0, api.ErrArg},
		{nil, 0, api.ErrArg},
		{nil, 21, api.ErrArg},
		{nil, 1, api.ErrFew},
		{nil, 20, api.ErrFew},
		{[]api.Share{{X: 1, Y: 1}, {X: 2, Y: 5}, {X: 1, Y: 2}}, 4, api.ErrTwice},
		{[]api.Share{{X: 1, Y: 1}, {X: 2, Y: 5}, {X: 1, Y: 2}}, 1, api.ErrTwice},
		{[]api.Share{{X: 1, Y: 1}, {X: 2, Y: 5}}, 3, api.ErrFew},
		{[]api.Share{{X: 1, Y: 1}, {X: 2, Y: 5}}, 1, api.ErrCheck},
	} {
		if secret, e := share.Join(c.l, c.k); secret != 0 || e != c.e {
			t.Errorf("%d: Join = %d, %v, want %v", i, secret, e, c.e)
		}
	}
}

// randomList returns some shares of one secret in some order, of which some may be changed or lost, or there twice.
func randomList(t *testing.T, r *rand.Rand) (l []api.Share, k, secret int) {
	n := 1 + r.Intn(api.MaxShares)
	k = 1 + r.Intn(n)
	secret = r.Intn(api.Prime)
	l = split(t, secret, k, n, int(r.Uint64()))
	r.Shuffle(n, func(i, j int) { l[i], l[j] = l[j], l[i] })
	l = l[:n-r.Intn(n)/2]
	at := r.Intn(len(l))
	switch r.Intn(8) {
	case 0:
		l[at].Y = r.Intn(api.Prime)
	case 1:
		l[at].Y = (l[at].Y + 1) % api.Prime
	case 2:
		l[at].X = 1 + r.Intn(20)
	case 3:
		l[at].Y += api.Prime
	case 4:
		l = append(l, l[at])
	case 5:
		l[at].X = r.Intn(2) * 21
	}
	return l, k + r.Intn(4)*r.Intn(2) - r.Intn(2)*r.Intn(2), secret
}

// TestRandomLists is about P6.2 and P6.3 with longer lists.
func TestRandomLists(t *testing.T) {
	r := rand.New(rand.NewSource(2))
	met := map[api.Errno]int{}
	for range 2500 {
		l, k, secret := randomList(t, r)
		expectJoin(t, l, k)
		expectFits(t, l, k, secret)
		expectFits(t, l, k, r.Intn(api.Prime))
		_, e := share.Join(l, k)
		met[e]++
	}
	for _, e := range []api.Errno{api.OK, api.ErrArg, api.ErrTwice, api.ErrFew, api.ErrCheck} {
		if met[e] < 20 {
			t.Errorf("%v was met %d times", e, met[e])
		}
	}
}

// choose returns the shares whose bits are set.
func choose(l []api.Share, bits int) []api.Share {
	var c []api.Share
	for i, s := range l {
		if bits>>i&1 == 1 {
			c = append(c, s)
		}
	}
	return c
}

// TestEverySubset is about P6.5: enough shares join, and fewer fit every secret.
func TestEverySubset(t *testing.T) {
	r := rand.New(rand.NewSource(3))
	const n = 7
	for k := 1; k <= n; k++ {
		for _, secret := range []int{0, 1, 5, 1 << 30, api.Prime - 1} {
			l := split(t, secret, k, n, int(r.Uint64()))
			for bits := range 1 << n {
				c := choose(l, bits)
				r.Shuffle(len(c), func(i, j int) { c[i], c[j] = c[j], c[i] })
				joined, e := share.Join(c, k)
				if len(c) < k && (joined != 0 || e != api.ErrFew) || len(c) >= k && (joined != secret || e != api.OK) {
					t.Fatalf("Join(%v, %d) = %d, %v, the secret is %d", c, k, joined, e, secret)
				}
				for _, other := range []int{0, 1, secret, (secret + 1) % api.Prime, r.Intn(api.Prime), api.Prime - 1} {
					if share.Fits(c, k, other) != (len(c) < k || other == secret) {
						t.Fatalf("Fits(%v, %d, %d), the secret is %d", c, k, other, secret)
					}
				}
			}
		}
	}
}

// TestEveryOrder is about P6.5: the order of the shares does not matter.
func TestEveryOrder(t *testing.T) {
	l := split(t, 424242, 3, 5, 77)
	orders := 0
	var permute func(done int)
	permute = func(done int) {
		if done == len(l) {
			orders++
			for length := 3; length <= 5; length++ {
				if secret, e := share.Join(l[:length], 3); secret != 424242 || e != api.OK {
					t.Fatalf("Join(%v, 3) = %d, %v", l[:length], secret, e)
				}
			}
			return
		}
		for i := done; i < len(l); i++ {
			l[done], l[i] = l[i], l[done]
			permute(done + 1)
			l[done], l[i] = l[i], l[done]
		}
	}
	permute(0)
	if orders != 120 {
		t.Error(orders)
	}
}

// TestManyShares is about P6.5 for every k and n.
func TestManyShares(t *testing.T) {
	r := rand.New(rand.NewSource(4))
	for n := 1; n <= api.MaxShares; n++ {
		for k := 1; k <= n; k++ {
			secret := r.Intn(api.Prime)
			l := split(t, secret, k, n, int(r.Uint64()))
			for range 5 {
				r.Shuffle(n, func(i, j int) { l[i], l[j] = l[j], l[i] })
				enough := l[:k+r.Intn(n-k+1)]
				if joined, e := share.Join(enough, k); joined != secret || e != api.OK || !share.Fits(enough, k, secret) || share.Fits(enough, k, (secret+1)%api.Prime) {
					t.Fatalf("Join(%v, %d) = %d, %v, the secret is %d", enough, k, joined, e, secret)
				}
				few := l[:r.Intn(k)]
				if _, e := share.Join(few, k); e != api.ErrFew || !share.Fits(few, k, r.Intn(api.Prime)) {
					t.Fatalf("%v with %d: %v", few, k, e)
				}
			}
		}
	}
}

// TestSums is about P6.6: sums of shares are shares of the sum.
func TestSums(t *testing.T) {
	r := rand.New(rand.NewSource(5))
	for range 500 {
		n := 1 + r.Intn(api.MaxShares)
		k := 1 + r.Intn(n)
		a, b := r.Intn(api.Prime), r.Intn(api.Prime)
		l, m := split(t, a, k, n, int(r.Uint64())), split(t, b, k, n, int(r.Uint64()))
		var sums []api.Share
		for i := range l {
			sums = append(sums, api.Share{X: l[i].X, Y: (l[i].Y + m[i].Y) % api.Prime})
		}
		if sum, e := share.Join(sums, k); sum != (a+b)%api.Prime || e != api.OK {
			t.Fatalf("Join of the sums of %v and %v with %d = %d, %v", l, m, k, sum, e)
		}
	}
}

// TestChanged is about P6.7: a changed share of more than enough is noticed; of exactly enough it gives another secret.
func TestChanged(t *testing.T) {
	r := rand.New(rand.NewSource(6))
	for n := 1; n <= api.MaxShares; n++ {
		for k := 1; k <= n; k++ {
			secret := r.Intn(api.Prime)
			l := split(t, secret, k, n, int(r.Uint64()))
			for i := range l {
				for _, by := range []int{1, 1 + r.Intn(api.Prime-1), api.Prime - 1} {
					c := slices.Clone(l)
					c[i].Y = (c[i].Y + by) % api.Prime
					joined, e := share.Join(c, k)
					if n > k && (joined != 0 || e != api.ErrCheck) || n == k && (joined == secret || e != api.OK) {
						t.Fatalf("Join(%v, %d), where %d is changed, = %d, %v", c, k, i, joined, e)
					}
				}
			}
		}
	}
}

// TestMemory is about P6.4 and R3: arguments are read alone, results are new, and the same call gives the same.
func TestMemory(t *testing.T) {
	l := split(t, 8, 2, 5, 3)
	again := split(t, 8, 2, 5, 3)
	whole := slices.Clone(l)
	share.Join(l[:2], 2)
	share.Join(l[1:4], 3)
	for k := range 7 {
		for to := range l {
			share.Fits(l[:to], k, 9)
			share.Fits(l[to:], k, 8)
		}
	}
	if !slices.Equal(l, whole) || !slices.Equal(again, whole) {
		t.Error("an argument, or what follows it, was changed", l, again)
	}
	clear(again)
	if third := split(t, 8, 2, 5, 3); !slices.Equal(third, whole) || !slices.Equal(l, whole) {
		t.Error("two results share memory", l, third)
	}
	// What follows a list does not belong to it, and an empty list is a nil one.
	if _, e := share.Join(l[:1], 2); e != api.ErrFew || !share.Fits(l[:1], 2, 7) {
		t.Error(e)
	}
	if _, e := share.Join(l[:0], 2); e != api.ErrFew || !share.Fits(l[:0], 2, 7) || !share.Fits(nil, 2, 7) {
		t.Error(e)
	}
}

// TestMany is about R1: long lists end at once, because a long list has a place twice.
func TestMany(t *testing.T) {
	l := make([]api.Share, 2000000)
	for i := range l {
		l[i] = api.Share{X: 1 + i%20, Y: i}
	}
	if _, e := share.Join(l, 20); e != api.ErrTwice || share.Fits(l, 20, 1) {
		t.Error(e)
	}
	l[len(l)-1].X = 21
	if _, e := share.Join(l, 20); e != api.ErrArg || share.Fits(l, 20, 1) {
		t.Error(e)
	}
	for seed := range 2000 {
		if secret, e := share.Join(split(t, seed, 10, 20, seed), 10); secret != seed || e != api.OK {
			t.Fatal(seed, secret, e)
		}
	}
}
