package sat_test

import (
	"math"
	"math/rand"
	"slices"
	"testing"

	"lingua/api"
	"lingua/sat"
)

// is returns a clause.
func is(a, b int) api.Clause { return api.Clause{A: a, B: b} }

// model is the list of all assignments that satisfy clauses, in the order of the chapter.
type model [][]bool

// truth reports whether a literal is true in an assignment.
func truth(values []bool, lit int) bool {
	if lit%2 == 0 {
		return values[lit/2]
	}
	return !values[lit/2]
}

// assignments returns all lists of n truth values, those with false for the first variable first.
func assignments(n int) [][]bool {
	if n == 0 {
		return [][]bool{{}}
	}
	var all [][]bool
	for _, first := range []bool{false, true} {
		for _, rest := range assignments(n - 1) {
			all = append(all, append([]bool{first}, rest...))
		}
	}
	return all
}

// satisfied reports whether an assignment makes every clause true.
func satisfied(l []api.Clause, values []bool) bool {
	for _, c := range l {
		if !truth(values, c.A) && !truth(values, c.B) {
			return false
		}
	}
	return true
}

// modelOf tries all assignments.
func modelOf(l []api.Clause, all [][]bool) model {
	var m model
	for _, values := range all {
		if satisfied(l, values) {
			m = append(m, values)
		}
	}
	return m
}

// follows is Follows, for literals alone.
func (m model) follows(lits []int) bool {
	for _, values := range m {
		if !slices.ContainsFunc(lits, func(lit int) bool { return truth(values, lit) }) {
			return false
		}
	}
	return true
}

// forced is Forced, if there is an assignment.
func (m model) forced(n int) []int {
	l := make([]int, n)
	for v := range l {
		l[v] = -1
		if m.follows([]int{2 * v}) {
			l[v] = 1
		} else if m.follows([]int{2*v + 1}) {
			l[v] = 0
		}
	}
	return l
}

// modelImplies is the definition of implies.
func modelImplies(l []api.Clause, first, second int) bool {
	opposite := first + 1 - 2*(first%2)
	return slices.ContainsFunc(l, func(c api.Clause) bool {
		return c.A == opposite && c.B == second || c.B == opposite && c.A == second
	})
}

// modelRefute is Refute for right clauses and literals.
func modelRefute(l []api.Clause, n int, cycle []int) bool {
	if len(cycle) == 0 || len(cycle) > 4*n {
		return false
	}
	values := map[int]map[bool]bool{}
	both := false
	for i, lit := range cycle {
		next := cycle[0]
		if i+1 < len(cycle) {
			next = cycle[i+1]
		}
		if !modelImplies(l, lit, next) {
			return false
		}
		if values[lit/2] == nil {
			values[lit/2] = map[bool]bool{}
		}
		values[lit/2][lit%2 == 0] = true
		both = both || len(values[lit/2]) == 2
	}
	return both
}

// expectSolve expects that Solve and Forced agree with all assignments that there are.
func expectSolve(t *testing.T, l []api.Clause, n int, m model) {
	t.Helper()
	before := slices.Clone(l)
	values, cycle, e := sat.Solve(l, n)
	forced, forcedE := sat.Forced(l, n)
	if len(m) > 0 {
		if e != api.OK || len(cycle) != 0 || !slices.Equal(values, m[0]) || !sat.Check(l, n, values) {
			t.Fatalf("Solve(%v, %d) = %v, %v, %v, want %v", l, n, values, cycle, e, m[0])
		}
		if forcedE != api.OK || !slices.Equal(forced, m.forced(n)) {
			t.Fatalf("Forced(%v, %d) = %v, %v, want %v", l, n, forced, forcedE, m.forced(n))
		}
	} else {
		if e != api.ErrUnsat || len(values) != 0 || !modelRefute(l, n, cycle) || !sat.Refute(l, n, cycle) {
			t.Fatalf("Solve(%v, %d) = %v, %v, %v, and there is no assignment", l, n, values, cycle, e)
		}
		if forcedE != api.ErrUnsat || len(forced) != 0 {
			t.Fatalf("Forced(%v, %d) = %v, %v, and there is no assignment", l, n, forced, forcedE)
		}
	}
	if !slices.Equal(l, before) {
		t.Fatalf("the clauses %v were changed to %v", before, l)
	}
}

// expectFollows expects that Follows agrees with all assignments that there are.
func expectFollows(t *testing.T, l []api.Clause, n int, m model, lits []int) {
	t.Helper()
	before := slices.Clone(lits)
	if got, want := sat.Follows(l, n, lits), m.follows(lits); got != want {
		t.Fatalf("Follows(%v, %d, %v) = %v", l, n, lits, got)
	}
	if !slices.Equal(lits, before) {
		t.Fatalf("the literals %v were changed to %v", before, lits)
	}
}

// expectCheck expects that the assignments for which Check reports true are those that there are.
func expectCheck(t *testing.T, l []api.Clause, n int, all [][]bool) {
	t.Helper()
	for _, values := range all {
		if got := sat.Check(l, n, values); got != satisfied(l, values) {
			t.Fatalf("Check(%v, %d, %v) = %v", l, n, values, got)
		}
	}
}

// expectArg expects that every function refuses clauses, and says nothing else.
func expectArg(t *testing.T, l []api.Clause, n int) {
	t.Helper()
	if sat.Right(l, n) {
		t.Errorf("Right(%.20v, %d)", l, n)
	}
	if values, cycle, e := sat.Solve(l, n); len(values) != 0 || len(cycle) != 0 || e != api.ErrArg {
		t.Errorf("Solve(%.20v, %d) = %v, %v, %v", l, n, values, cycle, e)
	}
	if forced, e := sat.Forced(l, n); len(forced) != 0 || e != api.ErrArg {
		t.Errorf("Forced(%.20v, %d) = %v, %v", l, n, forced, e)
	}
	size := min(max(n, 0), 1000)
	for _, values := range [][]bool{nil, make([]bool, size), slices.Repeat([]bool{true}, size)} {
		if sat.Check(l, n, values) {
			t.Errorf("Check(%.20v, %d, %v)", l, n, values)
		}
	}
	for _, lits := range [][]int{nil, {0}, {0, 1}, {1, 0}} {
		if sat.Refute(l, n, lits) || sat.Follows(l, n, lits) {
			t.Errorf("Refute or Follows(%.20v, %d, %v)", l, n, lits)
		}
	}
}

// never are clauses that nothing satisfies, with their refutation 0, 1.
var never = []api.Clause{is(0, 0), is(1, 1)}

// TestExamples is about the chapter's examples.
func TestExamples(t *testing.T) {
	for _, c := range []struct {
		l      []api.Clause
		n      int
		values []bool
		forced []int
		e      api.Errno
	}{
		{nil, 2, []bool{false, false}, []int{-1, -1}, api.OK},
		{[]api.Clause{is(0, 2), is(1, 3)}, 2, []bool{false, true}, []int{-1, -1}, api.OK},
		{[]api.Clause{is(0, 0), is(1, 2)}, 2, []bool{true, true}, []int{1, 1}, api.OK},
		{never, 1, nil, nil, api.ErrUnsat},
		{[]api.Clause{is(0, 4)}, 2, nil, nil, api.ErrArg},
	} {
		values, cycle, e := sat.Solve(c.l, c.n)
		if !slices.Equal(values, c.values) || e != c.e || (len(cycle) > 0) != (e == api.ErrUnsat) {
			t.Errorf("Solve(%v, %d) = %v, %v, %v", c.l, c.n, values, cycle, e)
		}
		if e == api.ErrUnsat && !sat.Refute(c.l, c.n, cycle) {
			t.Errorf("%v does not refute %v", cycle, c.l)
		}
		if forced, e := sat.Forced(c.l, c.n); !slices.Equal(forced, c.forced) || e != c.e {
			t.Errorf("Forced(%v, %d) = %v, %v", c.l, c.n, forced, e)
		}
	}
	l := []api.Clause{is(0, 2), is(1, 3)}
	if !sat.Follows(l, 2, []int{0, 2}) || sat.Follows(l, 2, []int{0}) {
		t.Error("Follows")
	}
	if !sat.Refute(never, 1, []int{0, 1}) {
		t.Error("Refute")
	}
}

// TestRight is about P8.1, and about ErrArg of P8.2 to P8.4: clauses at the ends of what is right, and beyond.
func TestRight(t *testing.T) {
	many := slices.Repeat([]api.Clause{is(0, 1)}, 4000)
	last := slices.Clone(many)
	last[3999] = is(5, 0)
	for _, c := range []struct {
		l []api.Clause
		n int
	}{
		{nil, 0}, {[]api.Clause{}, 0}, {nil, 1}, {nil, 400}, {many, 1}, {many, 400}, {last, 3},
		{[]api.Clause{is(0, 0)}, 1}, {[]api.Clause{is(1, 1), is(0, 1)}, 1}, {[]api.Clause{is(799, 799)}, 400},
	} {
		if !sat.Right(c.l, c.n) {
			t.Errorf("Right(%.20v, %d) is false", c.l, c.n)
		}
		if _, _, e := sat.Solve(c.l, c.n); e != api.OK {
			t.Errorf("Solve(%.20v, %d): %v", c.l, c.n, e)
		}
		if l, e := sat.Forced(c.l, c.n); e != api.OK || len(l) != c.n {
			t.Errorf("Forced(%.20v, %d) = %v, %v", c.l, c.n, l, e)
		}
	}
	for _, n := range []int{math.MinInt, math.MinInt + 1, -1 << 32, -400, -1, 401, 1000, 1 << 32, 1<<32 + 1, 1 << 62, 1<<62 + 1, 1<<63 - 1} {
		expectArg(t, nil, n)
		expectArg(t, never, n)
	}
	expectArg(t, never, 0)
	expectArg(t, append(slices.Clone(many), is(0, 1)), 1)
	expectArg(t, append(slices.Clone(never), many...), 1)
	expectArg(t, append(slices.Clone(many), is(0, 0)), 400)
	expectArg(t, last, 2)
	for _, lit := range []int{math.MinInt, -1 << 32, -6, -2, -1, 6, 7, 100, 800, 1 << 32, 1<<32 + 1, math.MaxInt - 1, math.MaxInt} {
		for _, c := range []api.Clause{is(lit, 0), is(5, lit), is(lit, lit)} {
			expectArg(t, []api.Clause{c}, 3)
			expectArg(t, append(slices.Clone(never), c), 3)
			expectArg(t, append([]api.Clause{c}, never...), 3)
		}
	}
}

// TestNoVariables is about P8.1 to P8.4 with n 0: there is one assignment, which has no values.
func TestNoVariables(t *testing.T) {
	expectSolve(t, nil, 0, model{{}})
	if !sat.Check(nil, 0, nil) || !sat.Check(nil, 0, []bool{}) || sat.Check(nil, 0, []bool{false}) {
		t.Error("Check")
	}
	if sat.Refute(nil, 0, nil) || sat.Refute(nil, 0, []int{0}) || sat.Refute(nil, 0, []int{0, 1}) {
		t.Error("Refute")
	}
	if sat.Follows(nil, 0, nil) || sat.Follows(nil, 0, []int{0}) {
		t.Error("Follows")
	}
}

// TestCheckLengths is about P8.1: there are n values, not less or more.
func TestCheckLengths(t *testing.T) {
	for n := range 5 {
		for length := range 7 {
			if sat.Check(nil, n, make([]bool, length)) != (n == length) {
				t.Error(n, length)
			}
		}
	}
	l := []api.Clause{is(0, 0)}
	if sat.Check(l, 3, []bool{true}) || sat.Check(l, 3, []bool{true, true, true, true}) || sat.Check(l, 1, nil) || !sat.Check(l, 3, []bool{true, false, true}) {
		t.Error("Check")
	}
}

// TestRefute is about P8.1 with refutations, and lists that lack something.
func TestRefute(t *testing.T) {
	// 0 implies 2, 2 implies 1, 1 implies 5, and 5 implies 0; and the opposites the other way round.
	l := []api.Clause{is(1, 2), is(1, 3), is(5, 0), is(0, 4)}
	long := slices.Repeat([]int{0, 2, 1, 5}, 3)
	for i, c := range []struct {
		l     []api.Clause
		n     int
		cycle []int
		want  bool
	}{
		{l, 3, []int{0, 2, 1, 5}, true},
		{l, 3, []int{2, 1, 5, 0}, true},
		{l, 3, []int{5, 0, 2, 1}, true},
		{l, 3, []int{4, 0, 3, 1}, true}, // the opposites, the other way round
		{l, 3, []int{1, 4, 0, 2}, true},
		{l, 3, []int{1, 5, 0, 3}, true},
		{l, 3, []int{5, 1, 2, 0}, false}, // the other way round
		{l, 3, []int{1, 3, 0, 4}, false}, // the opposites, in this order
		{l, 3, []int{0, 2, 1}, false},    // 1 does not imply 0
		{l, 3, []int{0, 2, 1, 5, 0}, false},
		{l, 3, []int{2, 1, 5}, false},
		{l, 3, []int{0, 1}, false},
		{l, 3, []int{0}, false},
		{l, 3, nil, false},
		{l, 3, []int{}, false},
		{l, 3, []int{0, 2, 1, -1}, false},
		{l, 3, []int{0, 2, 1, 6}, false},
		{l, 3, []int{-1, -2}, false},
		{l, 3, []int{6, 7}, false},
		{l, 3, []int{math.MinInt, math.MaxInt}, false},
		{l, 3, long, true},
		{l, 3, slices.Concat(long, long[:4]), false}, // more than 4 n literals
		{l, 4, slices.Concat(long, long[:4]), true},
		{l, 4, slices.Concat(long, long), false},
		{l[:3], 3, []int{0, 2, 1, 5}, false},
		{l[:2], 3, []int{0, 2, 1, 5}, false},
		{l[1:], 3, []int{0, 2, 1, 5}, false},
		{append(slices.Clone(l), is(0, 6)), 3, []int{0, 2, 1, 5}, false},
		{l, 401, []int{0, 2, 1, 5}, false},
		{never, 1, []int{0, 1}, true},
		{never, 1, []int{1, 0}, true},
		{never, 1, []int{0, 1, 0, 1}, true},
		{never, 1, []int{0, 1, 0, 1, 0, 1}, false},
		{never, 1, []int{0, 1, 0}, false},
		{never, 1, []int{1}, false},
		{never[:1], 1, []int{0, 1}, false},
		{never[1:], 1, []int{0, 1}, false},
		// A cycle without opposites refutes nothing.
		{[]api.Clause{is(0, 3), is(1, 2)}, 2, []int{0, 2}, false},
		{[]api.Clause{is(0, 3), is(1, 2)}, 2, []int{1, 3}, false},
		{[]api.Clause{is(0, 3), is(1, 2)}, 2, []int{0, 2, 0, 2}, false},
		// By a clause with both literals of a variable each of them implies itself.
		{[]api.Clause{is(0, 1)}, 1, []int{0}, false},
		{[]api.Clause{is(0, 1)}, 1, []int{0, 1}, false},
		{append(slices.Clone(never), is(0, 1)), 1, []int{0, 0, 1}, true},
		{append(slices.Clone(never), is(1, 0)), 1, []int{0, 1, 1, 1}, true},
	} {
		if got := sat.Refute(c.l, c.n, c.cycle); got != c.want {
			t.Errorf("%d: Refute(%v, %d, %v) = %v", i, c.l, c.n, c.cycle, got)
		}
	}
	// The longest refutation that there can be, and one that is longer by one round.
	most := slices.Repeat([]int{0, 1}, 800)
	if !sat.Refute(never, 400, most) || sat.Refute(never, 400, append(most, 0, 1)) || !sat.Refute(never, 400, most[2:]) {
		t.Error("1600 literals")
	}
}

// TestFollows is about P8.3 with literals that are none, no literals, literals that are opposites or there twice, and clauses from which everything follows.
func TestFollows(t *testing.T) {
	l := []api.Clause{is(0, 0), is(1, 2)}
	for i, c := range []struct {
		l    []api.Clause
		n    int
		lits []int
		want bool
	}{
		{nil, 3, nil, false}, {nil, 3, []int{}, false}, {nil, 3, []int{0}, false}, {nil, 3, []int{0, 2, 4}, false},
		{nil, 3, []int{4, 5}, true}, {nil, 3, []int{1, 3, 0}, true}, {nil, 3, []int{0, 0}, false},
		{l, 3, []int{0}, true}, {l, 3, []int{2}, true}, {l, 3, []int{1}, false}, {l, 3, []int{3}, false}, {l, 3, []int{1, 3}, false},
		{l, 3, []int{4}, false}, {l, 3, []int{4, 1, 2}, true}, {l, 3, []int{2, 2, 2}, true}, {l, 3, nil, false},
		{l, 3, []int{0, 6}, false}, {l, 3, []int{6, 0}, false}, {l, 3, []int{0, -1}, false}, {l, 3, []int{-1}, false},
		{l, 3, []int{0, 1, math.MaxInt}, false}, {l, 3, []int{math.MinInt, 0, 1}, false},
		{never, 3, nil, true}, {never, 3, []int{0}, true}, {never, 3, []int{5}, true}, {never, 3, []int{3, 4}, true},
		{never, 3, []int{6}, false}, {never, 3, []int{-1}, false}, {never, 3, []int{0, 1, 6}, false}, {never, 401, nil, false},
	} {
		if got := sat.Follows(c.l, c.n, c.lits); got != c.want {
			t.Errorf("%d: Follows(%v, %d, %v) = %v", i, c.l, c.n, c.lits, got)
		}
	}
}

// TestFollowsOfMany is about P8.3 with as many clauses as are right: the opposites of the literals do not count.
func TestFollowsOfMany(t *testing.T) {
	full := slices.Repeat([]api.Clause{is(0, 0), is(1, 2)}, 2000)
	for i, c := range []struct {
		lits []int
		want bool
	}{
		{[]int{0}, true}, {[]int{2}, true}, {[]int{1, 3}, false}, {[]int{4}, false}, {[]int{4, 5}, true}, {nil, false}, {[]int{799, 0}, true}, {[]int{800, 0}, false},
		{slices.Repeat([]int{1}, 3000000), false}, {append(slices.Repeat([]int{4}, 3000000), 2), true},
	} {
		if got := sat.Follows(full, 400, c.lits); got != c.want {
			t.Error(i, got)
		}
	}
}

// clausesOf returns all clauses of n variables.
func clausesOf(n int) []api.Clause {
	var all []api.Clause
	for a := range 2 * n {
		for b := range 2 * n {
			all = append(all, is(a, b))
		}
	}
	return all
}

// listsOf returns all lists of literals with at most some length.
func listsOf(n, most int) [][]int {
	lists := [][]int{nil}
	from := 0
	for range most {
		to := len(lists)
		for _, l := range lists[from:to] {
			for lit := range 2 * n {
				lists = append(lists, append(slices.Clone(l), lit))
			}
		}
		from = to
	}
	return lists
}

// eachList calls a function with all lists of some of the clauses, with at most some length.
func eachList(clauses []api.Clause, most int, f func(l []api.Clause)) {
	var grow func(l []api.Clause)
	grow = func(l []api.Clause) {
		f(l)
		if len(l) == most {
			return
		}
		for _, c := range clauses {
			grow(append(slices.Clone(l), c))
		}
	}
	grow(nil)
}

// TestEveryList is about P8.1 to P8.4 with all lists of few clauses, in any order, some of them twice.
func TestEveryList(t *testing.T) {
	for _, size := range []struct{ n, clauses, lits int }{{1, 4, 3}, {2, 3, 3}, {3, 2, 2}, {4, 2, 1}} {
		all, lists := assignments(size.n), listsOf(size.n, size.lits)
		eachList(clausesOf(size.n), size.clauses, func(l []api.Clause) {
			m := modelOf(l, all)
			expectSolve(t, l, size.n, m)
			expectCheck(t, l, size.n, all)
			for _, lits := range lists {
				expectFollows(t, l, size.n, m, lits)
			}
		})
	}
}

// TestEverySet is about P8.1 to P8.4 with all sets of clauses of two variables, and all lists that may be refutations of them.
func TestEverySet(t *testing.T) {
	const n = 2
	var clauses []api.Clause
	for _, c := range clausesOf(n) {
		if c.A <= c.B {
			clauses = append(clauses, c)
		}
	}
	all, lits, cycles := assignments(n), listsOf(n, 2), listsOf(n, 5)
	answers := map[bool]int{}
	for bits := range 1 << len(clauses) {
		var l []api.Clause
		for i, c := range clauses {
			if bits>>i&1 == 1 && (bits+i)%3 == 0 {
				l = append(l, is(c.B, c.A))
			} else if bits>>i&1 == 1 {
				l = append(l, c)
			}
		}
		m := modelOf(l, all)
		answers[len(m) > 0]++
		expectSolve(t, l, n, m)
		expectCheck(t, l, n, all)
		for _, lits := range lits {
			expectFollows(t, l, n, m, lits)
		}
		for _, cycle := range cycles {
			got, want := sat.Refute(l, n, cycle), modelRefute(l, n, cycle)
			if got != want {
				t.Fatalf("Refute(%v, %d, %v) = %v", l, n, cycle, got)
			}
			if got && len(m) > 0 {
				t.Fatalf("%v refutes %v, which %v satisfies", cycle, l, m[0])
			}
		}
	}
	if answers[true] < 100 || answers[false] < 100 {
		t.Error(answers)
	}
}

// randomClauses returns clauses of n variables, some of them with one literal twice, or with two opposites.
func randomClauses(r *rand.Rand, n, count int) []api.Clause {
	var l []api.Clause
	for range count {
		c := is(r.Intn(2*n), r.Intn(2*n))
		switch r.Intn(12) {
		case 0:
			c.B = c.A
		case 1:
			c.B = c.A ^ 1
		}
		l = append(l, c)
	}
	return l
}

// randomLits returns some literals of n variables.
func randomLits(r *rand.Rand, n, count int) []int {
	var l []int
	for range count {
		l = append(l, r.Intn(2*n))
	}
	return l
}

// TestRandom is about P8.1 to P8.4 with up to nine variables.
func TestRandom(t *testing.T) {
	r := rand.New(rand.NewSource(1))
	answers := map[bool]int{}
	for n := 3; n <= 9; n++ {
		all := assignments(n)
		for range 400 {
			l := randomClauses(r, n, r.Intn(4*n))
			m := modelOf(l, all)
			answers[len(m) > 0]++
			expectSolve(t, l, n, m)
			expectCheck(t, l, n, all)
			for i := range 8 {
				expectFollows(t, l, n, m, randomLits(r, n, i/2))
			}
		}
	}
	if answers[true] < 500 || answers[false] < 500 {
		t.Error(answers)
	}
}

// TestRandomCycles is about Refute of P8.1: changes of refutations.
func TestRandomCycles(t *testing.T) {
	r := rand.New(rand.NewSource(2))
	answers := map[bool]int{}
	for range 20000 {
		n := 2 + r.Intn(8)
		l := randomClauses(r, n, n+r.Intn(2*n))
		_, cycle, e := sat.Solve(l, n)
		if e != api.ErrUnsat {
			continue
		}
		at := r.Intn(len(cycle))
		switch r.Intn(7) {
		case 0:
			cycle = slices.Concat(cycle[at:], cycle[:at])
		case 1:
			cycle[at] = r.Intn(2 * n)
		case 2:
			cycle = slices.Delete(cycle, at, at+1)
		case 3:
			cycle = slices.Insert(cycle, at, r.Intn(2*n))
		case 4:
			slices.Reverse(cycle)
		case 5:
			cycle = slices.Repeat(cycle, 1+r.Intn(5))
		case 6:
			// The opposites of all, the other way round, are a refutation too.
			slices.Reverse(cycle)
			for i := range cycle {
				cycle[i] ^= 1
			}
			if !sat.Refute(l, n, cycle) {
				t.Fatalf("Refute(%v, %d, %v) is false", l, n, cycle)
			}
		}
		before := slices.Clone(cycle)
		got, want := sat.Refute(l, n, cycle), modelRefute(l, n, cycle)
		if got != want || !slices.Equal(cycle, before) {
			t.Fatalf("Refute(%v, %d, %v) = %v", l, n, cycle, got)
		}
		answers[got]++
	}
	if answers[true] < 500 || answers[false] < 500 {
		t.Error(answers)
	}
}

// closure returns for each literal all literals that it leads to.
func closure(l []api.Clause, n int) [][]bool {
	leads := make([][]bool, 2*n)
	for a := range leads {
		leads[a] = make([]bool, 2*n)
	}
	for _, c := range l {
		leads[c.A^1][c.B], leads[c.B^1][c.A] = true, true
	}
	for k := range leads {
		for a := range leads {
			if !leads[a][k] {
				continue
			}
			for b, is := range leads[k] {
				leads[a][b] = leads[a][b] || is
			}
		}
	}
	return leads
}

// expectLarge expects that the answers for many variables, for which not all assignments can be tried, agree with what each literal leads to, and returns whether there is an assignment.
func expectLarge(t *testing.T, l []api.Clause, n int) bool {
	t.Helper()
	leads := closure(l, n)
	forced := slices.Repeat([]int{-1}, n)
	refuted := false
	for v := range n {
		yes, no := leads[2*v+1][2*v], leads[2*v][2*v+1]
		refuted = refuted || yes && no
		if yes {
			forced[v] = 1
		} else if no {
			forced[v] = 0
		}
	}
	values, cycle, e := sat.Solve(l, n)
	got, gotE := sat.Forced(l, n)
	if refuted {
		if e != api.ErrUnsat || len(values) != 0 || !modelRefute(l, n, cycle) || !sat.Refute(l, n, cycle) || gotE != api.ErrUnsat || len(got) != 0 || !sat.Follows(l, n, nil) {
			t.Fatalf("%d variables, %d clauses: %v, %v, %v, %v, and there is no assignment", n, len(l), values, cycle, e, gotE)
		}
		return false
	}
	if e != api.OK || len(cycle) != 0 || len(values) != n || !satisfied(l, values) || !sat.Check(l, n, values) || gotE != api.OK || !slices.Equal(got, forced) {
		t.Fatalf("%d variables, %d clauses: %v, %v, %v, %v", n, len(l), values, cycle, e, gotE)
	}
	// It is the first assignment: where it is true, false follows from nothing that begins like it.
	var differs []int
	for v, value := range values {
		if value && !sat.Follows(l, n, append(slices.Clone(differs), 2*v)) {
			t.Fatalf("%v, %d: the variable %d can be false in %v", l, n, v, values)
		}
		if value {
			differs = append(differs, 2*v+1)
		} else {
			differs = append(differs, 2*v)
		}
		if forced[v] >= 0 && (forced[v] == 1) != value {
			t.Fatalf("%v, %d: the variable %d is forced, and is %v", l, n, v, value)
		}
	}
	return true
}

// TestLarge is about P8.2 to P8.4 and P8.8 with as many variables and clauses as there can be.
func TestLarge(t *testing.T) {
	r := rand.New(rand.NewSource(3))
	answers := map[bool]int{}
	for i := range 60 {
		n := 20 + r.Intn(60)
		if i%12 == 0 {
			n = 400
		}
		l := randomClauses(r, n, r.Intn(n+n/2))
		answers[expectLarge(t, l, n)]++
	}
	// All clauses agree with one assignment, so it satisfies them.
	for i := range 4 {
		n := 400 >> i
		secret := randomLits(r, n, n)
		l := randomClauses(r, n, 4000)
		for k := range l {
			v := r.Intn(n)
			l[k].A = 2*v + secret[v]%2
		}
		answers[expectLarge(t, l, n)]++
	}
	answers[expectLarge(t, randomClauses(r, 400, 4000), 400)]++
	if answers[true] < 10 || answers[false] < 10 {
		t.Error(answers)
	}
}

// chain returns clauses by which each literal of a list implies the next one.
func chain(lits ...int) []api.Clause {
	var l []api.Clause
	for i, lit := range lits[1:] {
		l = append(l, is(lits[i]^1, lit))
	}
	return l
}

// TestChains is about P8.2 and R1 with ways through all variables.
func TestChains(t *testing.T) {
	const n = 400
	var up, zigzag []int
	for v := range n {
		up = append(up, 2*v)
		zigzag = append(zigzag, 2*(v*7%n)+v%2)
	}
	for i, c := range []struct {
		l    []api.Clause
		want bool
	}{
		{chain(up...), true},
		{append(chain(up...), is(0, 0)), true},
		{append(chain(up...), is(799, 799)), true},
		{append(chain(up...), is(0, 0), is(799, 799)), false},
		{append(chain(up...), chain(798, 1, 2)...), true},
		{slices.Concat(chain(up[:200]...), chain(398, 1), chain(append([]int{1}, up[200:]...)...), chain(798, 0)), false},
		{chain(append(slices.Clone(zigzag), zigzag[0])...), true},
		{slices.Concat(chain(zigzag...), chain(zigzag[n-1], zigzag[0]^1), chain(zigzag[0]^1, zigzag[0])), false},
	} {
		if got := expectLarge(t, c.l, n); got != c.want {
			t.Error(i, got)
		}
		slices.Reverse(c.l)
		if got := expectLarge(t, c.l, n); got != c.want {
			t.Error(i, got, "in the other order")
		}
	}
}

// TestEither is about P8.6: an assignment or a refutation, whatever the order of the clauses, and never both.
func TestEither(t *testing.T) {
	r := rand.New(rand.NewSource(4))
	for range 500 {
		n := 2 + r.Intn(30)
		l := randomClauses(r, n, n/2+r.Intn(n))
		values, cycle, e := sat.Solve(l, n)
		for range 5 {
			r.Shuffle(len(l), func(i, j int) { l[i], l[j] = l[j], l[i] })
			v, c, e2 := sat.Solve(l, n)
			if e2 != e || !slices.Equal(v, values) || sat.Check(l, n, v) == sat.Refute(l, n, c) || sat.Check(l, n, values) != (e == api.OK) || sat.Refute(l, n, cycle) != (e == api.ErrUnsat) {
				t.Fatalf("Solve(%v, %d) = %v, %v, %v, and %v, %v, %v", l, n, values, cycle, e, v, c, e2)
			}
		}
	}
}

// TestMore is about P8.7: what follows still follows with more clauses, and exactly what cannot be denied follows.
func TestMore(t *testing.T) {
	r := rand.New(rand.NewSource(5))
	answers := map[bool]int{}
	for range 3000 {
		n := 2 + r.Intn(20)
		l := randomClauses(r, n, r.Intn(n+n/2))
		lits := randomLits(r, n, r.Intn(4))
		follows := sat.Follows(l, n, lits)
		answers[follows]++
		if follows && !sat.Follows(append(slices.Clone(l), randomClauses(r, n, 3)...), n, lits) {
			t.Fatalf("%v follows from %v, but not from more", lits, l)
		}
		denied := slices.Clone(l)
		for _, lit := range lits {
			denied = append(denied, is(lit^1, lit^1))
		}
		if _, _, e := sat.Solve(denied, n); (e == api.ErrUnsat) != follows {
			t.Fatalf("%v follows from %v: %v, and with the opposites: %v", lits, l, follows, e)
		}
	}
	if answers[true] < 500 || answers[false] < 500 {
		t.Error(answers)
	}
}

// TestForcedFollows is about P8.8: what is forced is what follows alone, and the first assignment has it.
func TestForcedFollows(t *testing.T) {
	r := rand.New(rand.NewSource(6))
	met := map[int]int{}
	for range 500 {
		n := 2 + r.Intn(20)
		l := randomClauses(r, n, r.Intn(n+2))
		values, _, e := sat.Solve(l, n)
		forced, forcedE := sat.Forced(l, n)
		if e != forcedE {
			t.Fatal(l, n, e, forcedE)
		}
		for v, f := range forced {
			met[f]++
			if sat.Follows(l, n, []int{2 * v}) != (f == 1) || sat.Follows(l, n, []int{2*v + 1}) != (f == 0) || f >= 0 && values[v] != (f == 1) {
				t.Fatalf("Forced(%v, %d) = %v, the first assignment is %v", l, n, forced, values)
			}
		}
	}
	if met[-1] < 200 || met[0] < 200 || met[1] < 200 {
		t.Error(met)
	}
}

// TestMemory is about P8.5 and R3: arguments, and what follows them, stay as they are; results are new, and the same call gives the same.
func TestMemory(t *testing.T) {
	whole := []api.Clause{is(0, 0), is(1, 2), is(3, 3), is(5, 5), is(4, 4)}
	before := slices.Clone(whole)
	lits, cycle := []int{2, 3, 9, 9}, []int{0, 2, 1, 9}
	for range 2 {
		for to := range len(whole) + 1 {
			l := whole[:to]
			sat.Right(l, 3)
			sat.Check(l, 3, []bool{true, true, false})
			sat.Refute(l, 3, cycle[:3])
			sat.Follows(l, 3, lits[:2])
			sat.Follows(l, 3, []int{0, 2, 4})
			values, refutation, e := sat.Solve(l, 3)
			forced, _ := sat.Forced(l, 3)
			again, againRefutation, againE := sat.Solve(l, 3)
			forcedAgain, _ := sat.Forced(l, 3)
			if e != againE || !slices.Equal(values, again) || !slices.Equal(refutation, againRefutation) || !slices.Equal(forced, forcedAgain) {
				t.Error(to, "the same call gives something else")
			}
			for i := range values[:cap(values)] {
				values[:cap(values)][i] = true
			}
			clear(refutation[:cap(refutation)])
			clear(forced[:cap(forced)])
			third, thirdRefutation, _ := sat.Solve(l, 3)
			forcedThird, _ := sat.Forced(l, 3)
			if !slices.Equal(again, third) || !slices.Equal(againRefutation, thirdRefutation) || !slices.Equal(forcedAgain, forcedThird) {
				t.Error(to, "two results share memory")
			}
		}
	}
	if !slices.Equal(whole, before) || !slices.Equal(lits, []int{2, 3, 9, 9}) || !slices.Equal(cycle, []int{0, 2, 1, 9}) {
		t.Error("an argument, or what follows it, was changed:", whole, lits, cycle)
	}
	// An empty list is a nil one.
	values, _, e := sat.Solve([]api.Clause{}, 2)
	if e != api.OK || !slices.Equal(values, []bool{false, false}) || sat.Follows([]api.Clause{}, 2, []int{}) || !sat.Follows(never, 2, []int{}) {
		t.Error(values, e)
	}
}
