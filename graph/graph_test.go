package graph_test

import (
	"fmt"
	"math"
	"math/rand"
	"slices"
	"testing"

	"lingua/api"
	"lingua/graph"
)

// model is a graph as the list of its nodes, in the order in which they were added. It finds pasts and levels by repeating their definitions until nothing is new.
type model []api.Node

// find returns the place of a node, or -1.
func (m model) find(id int) int {
	return slices.IndexFunc(m, func(n api.Node) bool { return n.Id == id })
}

// add is Add.
func (m *model) add(n api.Node) api.Errno {
	if n.Id < 0 || n.Id > 99999 {
		return api.ErrArg
	}
	for i, p := range n.Parents {
		if p < 0 || p >= n.Id || i > 0 && p <= n.Parents[i-1] {
			return api.ErrArg
		}
	}
	if i := m.find(n.Id); i >= 0 && !slices.Equal((*m)[i].Parents, n.Parents) {
		return api.ErrTwice
	} else if i >= 0 {
		return api.OK
	}
	for _, p := range n.Parents {
		if m.find(p) < 0 {
			return api.ErrMiss
		}
	}
	*m = append(*m, api.Node{Id: n.Id, Parents: slices.Clone(n.Parents)})
	return api.OK
}

// pasts returns the pairs of a node and another one in the past of which it is.
func (m model) pasts() map[[2]int]bool {
	r := map[[2]int]bool{}
	for _, n := range m {
		for _, p := range n.Parents {
			r[[2]int{p, n.Id}] = true
		}
	}
	for _, k := range m {
		for _, a := range m {
			for _, b := range m {
				if r[[2]int{a.Id, k.Id}] && r[[2]int{k.Id, b.Id}] {
					r[[2]int{a.Id, b.Id}] = true
				}
			}
		}
	}
	return r
}

// levels returns the levels of all nodes.
func (m model) levels() map[int]int {
	l := map[int]int{}
	for changed := true; changed; {
		changed = false
		for _, n := range m {
			for _, p := range n.Parents {
				if l[n.Id] < l[p]+1 {
					l[n.Id] = l[p] + 1
					changed = true
				}
			}
		}
	}
	return l
}

// ids returns the ids of the nodes of which something is true, ascending.
func (m model) ids(is func(id int) bool) []int {
	var l []int
	for _, n := range m {
		if is(n.Id) {
			l = append(l, n.Id)
		}
	}
	slices.Sort(l)
	return l
}

// down is Down, for a graph with these pasts.
func (m model) down(ids []int, pasts map[[2]int]bool) []int {
	return m.ids(func(id int) bool {
		return slices.ContainsFunc(ids, func(b int) bool {
			return id == b || pasts[[2]int{id, b}]
		})
	})
}

// sorted is Sorted, for a graph with these levels.
func (m model) sorted(ids []int, levels map[int]int) []int {
	l := m.ids(func(id int) bool { return slices.Contains(ids, id) })
	slices.SortStableFunc(l, func(a, b int) int { return levels[a] - levels[b] })
	return l
}

// restrict returns the nodes of Restrict.
func (m model) restrict(ids []int) model {
	var r model
	down := m.down(ids, m.pasts())
	for _, n := range m {
		if slices.Contains(down, n.Id) {
			r = append(r, n)
		}
	}
	return r
}

// expectNodes expects that a graph says of every node what the model says, and also of ids that may be no nodes.
func expectNodes(t *testing.T, g *graph.Graph, m model, others ...int) {
	t.Helper()
	if g == nil {
		t.Fatal("no graph")
	}
	pasts, levels := m.pasts(), m.levels()
	all := others
	for _, n := range m {
		all = append(all, n.Id)
	}
	if g.Len() != len(m) {
		t.Fatalf("%v: Len() = %d", m, g.Len())
	}
	if heads := m.ids(func(a int) bool { return len(m.ids(func(b int) bool { return pasts[[2]int{a, b}] })) == 0 }); !slices.Equal(g.Heads(), heads) {
		t.Fatalf("%v: Heads() = %v, want %v", m, g.Heads(), heads)
	}
	for _, b := range all {
		level, parents := -1, []int(nil)
		if i := m.find(b); i >= 0 {
			level, parents = levels[b], m[i].Parents
		}
		if g.Has(b) != (level >= 0) || g.Level(b) != level || !slices.Equal(g.Parents(b), parents) {
			t.Fatalf("%v: of %d: %v, the level %d, the parents %v", m, b, g.Has(b), g.Level(b), g.Parents(b))
		}
		if past := m.ids(func(a int) bool { return pasts[[2]int{a, b}] }); !slices.Equal(g.Past(b), past) {
			t.Fatalf("%v: Past(%d) = %v, want %v", m, b, g.Past(b), past)
		}
		for _, a := range all {
			if g.Before(a, b) != pasts[[2]int{a, b}] {
				t.Fatalf("%v: Before(%d, %d) = %v", m, a, b, g.Before(a, b))
			}
		}
	}
}

// expectLists expects that a graph says of lists of ids what the model says.
func expectLists(t *testing.T, g *graph.Graph, m model, lists ...[]int) {
	t.Helper()
	pasts, levels := m.pasts(), m.levels()
	for _, ids := range lists {
		before := slices.Clone(ids)
		if got, want := g.Down(ids), m.down(ids, pasts); !slices.Equal(got, want) {
			t.Fatalf("%v: Down(%v) = %v, want %v", m, ids, got, want)
		}
		if got, want := g.Sorted(ids), m.sorted(ids, levels); !slices.Equal(got, want) {
			t.Fatalf("%v: Sorted(%v) = %v, want %v", m, ids, got, want)
		}
		part := m.restrict(ids)
		expectNodes(t, g.Restrict(ids), part)
		if got, want := g.Restrict(ids).Same(g), len(part) == len(m); got != want {
			t.Fatalf("%v: Restrict(%v) is the same: %v", m, ids, got)
		}
		if !slices.Equal(ids, before) {
			t.Fatalf("%v: %v was changed to %v", m, before, ids)
		}
	}
}

// expectAdd adds a node to both, and returns what Add returns.
func expectAdd(t *testing.T, g *graph.Graph, m *model, n api.Node) api.Errno {
	t.Helper()
	before := slices.Clone(n.Parents)
	old := *m
	e := g.Add(n)
	if want := m.add(n); e != want {
		t.Fatalf("%v: Add(%v) = %v, want %v", old, n, e, want)
	}
	if !slices.Equal(n.Parents, before) {
		t.Fatalf("%v: Add has changed %v to %v", old, before, n.Parents)
	}
	return e
}

// build returns a graph to which nodes were added, none of which may be refused.
func build(t *testing.T, nodes ...api.Node) *graph.Graph {
	t.Helper()
	g := graph.New()
	for _, n := range nodes {
		if e := g.Add(n); e != api.OK {
			t.Fatalf("Add(%v) = %v", n, e)
		}
	}
	return g
}

// of returns a node.
func of(id int, parents ...int) api.Node { return api.Node{Id: id, Parents: parents} }

// example has the nodes of the chapter's examples.
var example = []api.Node{of(0), of(1, 0), of(2, 0), of(3, 1, 2), of(7)}

// subsets returns all lists of some of the ids, ascending.
func subsets(ids []int) [][]int {
	lists := [][]int{nil}
	for _, id := range ids {
		for _, l := range slices.Clone(lists) {
			lists = append(lists, append(slices.Clone(l), id))
		}
	}
	return lists
}

// TestExamples is about the chapter's examples.
func TestExamples(t *testing.T) {
	g := build(t, example...)
	if l := g.Past(3); !slices.Equal(l, []int{0, 1, 2}) {
		t.Error("Past(3) =", l)
	}
	if l := g.Heads(); !slices.Equal(l, []int{3, 7}) {
		t.Error("Heads() =", l)
	}
	if a, b, c := g.Level(3), g.Level(7), g.Level(5); a != 2 || b != 0 || c != -1 {
		t.Error("levels:", a, b, c)
	}
	if l := g.Sorted([]int{3, 7, 2}); !slices.Equal(l, []int{7, 2, 3}) {
		t.Error("Sorted =", l)
	}
	if l := g.Down([]int{1, 7}); !slices.Equal(l, []int{0, 1, 7}) {
		t.Error("Down =", l)
	}
	if e := g.Add(of(3, 1)); e != api.ErrTwice {
		t.Error("3 of 1:", e)
	}
	if e := g.Add(of(8, 5)); e != api.ErrMiss {
		t.Error("8 of 5:", e)
	}
	expectNodes(t, g, example, -1, 4, 5, 8, 99999, 100000)
}

// TestNew is about P7.1 to P7.4 of a graph without nodes.
func TestNew(t *testing.T) {
	g := graph.New()
	expectNodes(t, g, nil, math.MinInt, -1, 0, 1, 99999, 100000, math.MaxInt)
	expectLists(t, g, nil, nil, []int{0}, []int{3, -1, 3})
	if !g.Same(graph.New()) || !g.Same(g.Copy()) || g.Same(nil) {
		t.Error("Same")
	}
	if g.Add(of(0)) != api.OK || graph.New().Len() != 0 {
		t.Error("two graphs share their nodes")
	}
}

// TestInvalid is about P7.1: what is not valid is refused with ErrArg, whatever else is wrong, and changes nothing.
func TestInvalid(t *testing.T) {
	g := build(t, example...)
	for _, n := range []api.Node{
		of(-1), of(math.MinInt), of(100000), of(100001), of(1 << 32), of(1<<32 + 3), of(math.MaxInt),
		of(100000, 0), of(-1, 0), of(-1, -2), of(math.MaxInt, math.MaxInt-1),
		of(0, 0), of(0, -1), of(3, 3), of(3, 4), of(3, 1, 3), of(3, 1, 2, 7), of(8, 9),
		of(3, -1), of(3, -1, 1, 2), of(3, math.MinInt), of(3, math.MaxInt), of(3, 1, math.MaxInt), of(8, 1<<32),
		of(3, 2, 1), of(3, 1, 1, 2), of(3, 1, 2, 2), of(8, 1, 0), of(8, 7, 7), of(8, 0, 3, 1), of(8, 0, 1, 1),
		of(8, 5, 5), of(8, 5, 4), of(8, 5, 8), of(5, 4, 6), of(9, 1, 5, -1),
	} {
		if e := g.Add(n); e != api.ErrArg {
			t.Errorf("Add(%v) = %v", n, e)
		}
	}
	expectNodes(t, g, example, -1, 4, 5, 8, 9, 100000)
	if e := g.Add(of(99999, 0, 7)); e != api.OK {
		t.Error("the greatest id:", e)
	}
	expectNodes(t, g, append(slices.Clone(example), of(99999, 0, 7)), 99998, 100000)
}

// TestOrderOfErrors is about P7.1: ErrTwice is named before ErrMiss, and what the graph has already is not refused.
func TestOrderOfErrors(t *testing.T) {
	g := build(t, example...)
	for _, c := range []struct {
		n api.Node
		e api.Errno
	}{
		{of(0), api.OK}, {of(1, 0), api.OK}, {of(3, 1, 2), api.OK}, {of(7), api.OK}, {api.Node{Id: 7, Parents: []int{}}, api.OK},
		{of(1), api.ErrTwice}, {of(3), api.ErrTwice}, {of(3, 0, 1, 2), api.ErrTwice}, {of(3, 1), api.ErrTwice}, {of(3, 2), api.ErrTwice}, {of(3, 0, 2), api.ErrTwice},
		{of(7, 0), api.ErrTwice}, {of(7, 5), api.ErrTwice}, {of(7, 0, 4, 5), api.ErrTwice},
		{of(8, 5), api.ErrMiss}, {of(8, 0, 5), api.ErrMiss}, {of(8, 4, 7), api.ErrMiss}, {of(8, 0, 1, 2, 3, 4), api.ErrMiss}, {of(99999, 99998), api.ErrMiss},
	} {
		if e := g.Add(c.n); e != c.e {
			t.Errorf("Add(%v) = %v, want %v", c.n, e, c.e)
		}
	}
	expectNodes(t, g, example, 4, 5, 8, 99998, 99999)
}

// TestEveryGraph is about P7.1 to P7.4 and P7.8 with all graphs of up to four nodes, all further nodes of small ids, and all lists of ids.
func TestEveryGraph(t *testing.T) {
	const greatest = 3
	lists := subsets([]int{0, 1, 2, 3})
	graphs := 0
	var choose func(m model, id int)
	choose = func(m model, id int) {
		if id > greatest {
			graphs++
			g := build(t, m...)
			expectNodes(t, g, m, -1, 0, 1, 2, 3, 4)
			expectLists(t, g, m, lists...)
			expectLists(t, g, m, []int{3, 2, 1, 0}, []int{0, 3, 0, 3}, []int{2, -1, 4, 1, 2, math.MaxInt, math.MinInt})
			for _, parents := range lists {
				for n := range greatest + 2 {
					g, m := g.Copy(), slices.Clone(m)
					expectAdd(t, g, &m, of(n, parents...))
					expectNodes(t, g, m)
				}
			}
			return
		}
		choose(m, id+1)
		for _, parents := range subsets(m.ids(func(int) bool { return true })) {
			choose(append(slices.Clone(m), of(id, parents...)), id+1)
		}
	}
	choose(nil, 0)
	if graphs != 1+4*1+6*2+4*8+64 {
		t.Error(graphs, "graphs")
	}
}

// TestEverySequence is about P7.1 with all sequences of three nodes, right and not, in any order of their ids.
func TestEverySequence(t *testing.T) {
	var all []api.Node
	for id := -1; id <= 3; id++ {
		all = append(all, of(id), of(id, 0), of(id, 1), of(id, 2), of(id, 0, 1), of(id, 1, 0), of(id, 0, 2), of(id, -1), of(id, 1, 1))
	}
	met := map[api.Errno]int{}
	for _, a := range all {
		for _, b := range all {
			for _, c := range all {
				g := graph.New()
				var m model
				for _, n := range []api.Node{a, b, c} {
					met[expectAdd(t, g, &m, n)]++
				}
				expectNodes(t, g, m, 0, 1, 2, 3)
			}
		}
	}
	for _, e := range []api.Errno{api.OK, api.ErrArg, api.ErrTwice, api.ErrMiss} {
		if met[e] < 1000 {
			t.Errorf("%v was met %d times", e, met[e])
		}
	}
}

// randomNodes returns valid nodes with different ids, ascending, whose parents are among them.
func randomNodes(r *rand.Rand, n, most int) []api.Node {
	step := 1
	if r.Intn(2) == 0 {
		step += r.Intn(99999 / n)
	}
	var l []api.Node
	id := r.Intn(step)
	for range n {
		var parents []int
		for range r.Intn(most + 1) {
			if len(l) > 0 {
				parents = append(parents, l[r.Intn(len(l))].Id)
			}
		}
		slices.Sort(parents)
		l = append(l, of(id, slices.Compact(parents)...))
		id += 1 + r.Intn(step)
	}
	return l
}

// randomIds returns some ids, most of which are ids of nodes, in any order, and some more than once.
func randomIds(r *rand.Rand, nodes []api.Node, n int) []int {
	var l []int
	for range n {
		id := r.Intn(100) - 1
		if r.Intn(4) > 0 && len(nodes) > 0 {
			id = nodes[r.Intn(len(nodes))].Id
		}
		l = append(l, id)
	}
	return l
}

// TestRandom is about P7.1 to P7.4 with larger graphs.
func TestRandom(t *testing.T) {
	r := rand.New(rand.NewSource(1))
	for range 150 {
		g := graph.New()
		var m model
		nodes := randomNodes(r, 1+r.Intn(25), r.Intn(5))
		for range 2 * len(nodes) {
			n := nodes[r.Intn(len(nodes))]
			switch r.Intn(8) {
			case 0:
				n.Parents = randomIds(r, nodes, r.Intn(3))
			case 1:
				n.Id = r.Intn(40) - 1
			}
			expectAdd(t, g, &m, n)
		}
		expectNodes(t, g, m, randomIds(r, nodes, 5)...)
		for i := range 8 {
			expectLists(t, g, m, randomIds(r, nodes, i))
		}
		if c := g.Copy(); !c.Same(g) || !g.Same(c) {
			t.Fatalf("%v: a copy is not the same", m)
		} else {
			expectNodes(t, c, m)
		}
	}
}

// TestSame is about P7.4: graphs are the same if their nodes are, with their parents.
func TestSame(t *testing.T) {
	graphs := []*graph.Graph{
		graph.New(),
		build(t, of(0)),
		build(t, of(1)),
		build(t, of(0), of(1)),
		build(t, of(0), of(1, 0)),
		build(t, of(0), of(2, 0)),
		build(t, of(0), of(1), of(2, 0)),
		build(t, of(0), of(1), of(2, 1)),
		build(t, of(0), of(1), of(2, 0, 1)),
		build(t, of(0), of(1, 0), of(2, 1)),
		build(t, of(0), of(1, 0), of(2, 0, 1)),
		build(t, of(0), of(1), of(99999, 0)),
	}
	for i, a := range graphs {
		for j, b := range graphs {
			if a.Same(b) != (i == j) || a.Same(b.Copy()) != (i == j) {
				t.Error(i, j, a.Same(b))
			}
		}
		if a.Same(nil) {
			t.Error(i, "is the same as nil")
		}
	}
}

// TestIndependent is about P7.4: what Restrict and Copy return changes nothing in the graph, nor the graph in it.
func TestIndependent(t *testing.T) {
	for i, part := range []func(g *graph.Graph) *graph.Graph{
		func(g *graph.Graph) *graph.Graph { return g.Copy() },
		func(g *graph.Graph) *graph.Graph { return g.Restrict([]int{3, 7}) },
		func(g *graph.Graph) *graph.Graph { return g.Restrict([]int{0, 1, 2, 3, 7}) },
	} {
		g := build(t, example...)
		a, b := part(g), part(g)
		for _, c := range []struct {
			g *graph.Graph
			n api.Node
		}{{g, of(8, 3)}, {a, of(9, 7)}, {b, of(8, 7)}} {
			if e := c.g.Add(c.n); e != api.OK {
				t.Error(i, c.n, e)
			}
		}
		expectNodes(t, g, append(slices.Clone(example), of(8, 3)), 9)
		expectNodes(t, a, append(slices.Clone(example), of(9, 7)), 8)
		expectNodes(t, b, append(slices.Clone(example), of(8, 7)), 9)
	}
}

// TestMemory is about P7.5: lists that were arguments or results can be changed without changing anything else.
func TestMemory(t *testing.T) {
	whole := []int{1, 2, 6, 6}
	g := graph.New()
	for _, n := range []api.Node{of(0), of(1, 0), of(2, 0), {Id: 3, Parents: whole[:2]}, of(7)} {
		if e := g.Add(n); e != api.OK {
			t.Fatal(n, e)
		}
	}
	if !slices.Equal(whole, []int{1, 2, 6, 6}) {
		t.Error("what follows the parents was changed:", whole)
	}
	whole[0], whole[1] = 0, 0
	expectNodes(t, g, example)
	c, p := g.Copy(), g.Restrict([]int{3, 7})
	ids := []int{7, 3, 5, 3, 0, 9, 9}
	results := [][]int{g.Parents(3), g.Past(3), g.Down(ids[:5]), g.Sorted(ids[:5]), g.Heads(), g.Restrict(ids[:5]).Heads(), c.Parents(3), p.Parents(3)}
	if !slices.Equal(ids, []int{7, 3, 5, 3, 0, 9, 9}) {
		t.Error("the ids, or what follows them, were changed:", ids)
	}
	again := [][]int{g.Parents(3), g.Past(3), g.Down(ids[:5]), g.Sorted(ids[:5]), g.Heads(), g.Restrict(ids[:5]).Heads(), c.Parents(3), p.Parents(3)}
	for i, l := range results {
		if !slices.Equal(l, again[i]) || len(l) == 0 {
			t.Error(i, l, again[i])
		}
		for j := range l[:cap(l)] {
			l[:cap(l)][j] = 77
		}
	}
	for i, l := range again {
		if slices.Contains(l, 77) {
			t.Error("the result", i, "shares memory:", l)
		}
	}
	for _, g := range []*graph.Graph{g, c, p} {
		expectNodes(t, g, example)
	}
	// A result keeps nothing of its argument, either.
	sorted, down := g.Sorted(ids[:2]), g.Down(ids[:1])
	clear(ids)
	if !slices.Equal(sorted, []int{7, 3}) || !slices.Equal(down, []int{7}) {
		t.Error(sorted, down)
	}
}

// addAll adds nodes in their order, again and again, until none is refused with ErrMiss any more, or nothing changes.
func addAll(g *graph.Graph, nodes []api.Node) {
	for n := -1; n != g.Len(); {
		n = g.Len()
		for _, node := range nodes {
			g.Add(node)
		}
	}
}

// everything returns all that a graph says, as a text.
func everything(g *graph.Graph, ids []int) string {
	s := fmt.Sprint(g.Len(), g.Heads(), g.Down(ids), g.Sorted(ids))
	for i, b := range ids {
		s += fmt.Sprint(b, g.Has(b), g.Level(b), g.Parents(b), g.Past(b), g.Down(ids[:i]), g.Sorted(ids[i:]), g.Restrict(ids[:i]).Heads())
		for _, a := range ids {
			s += fmt.Sprint(g.Before(a, b))
		}
	}
	return s
}

// TestOrders is about P7.6: the order in which nodes were added does not matter.
func TestOrders(t *testing.T) {
	r := rand.New(rand.NewSource(2))
	for range 60 {
		nodes := randomNodes(r, 2+r.Intn(20), r.Intn(5))
		first := build(t, nodes...)
		ids := randomIds(r, nodes, 12)
		for range 5 {
			r.Shuffle(len(nodes), func(i, j int) { nodes[i], nodes[j] = nodes[j], nodes[i] })
			g := graph.New()
			addAll(g, nodes)
			if !g.Same(first) || !first.Same(g) || everything(g, ids) != everything(first, ids) {
				t.Fatalf("the order %v gives another graph: %s, want %s", nodes, everything(g, ids), everything(first, ids))
			}
		}
		// The same holds where some nodes can never be added.
		lost := nodes[0].Id
		a, b := graph.New(), graph.New()
		addAll(a, nodes[1:])
		slices.Reverse(nodes[1:])
		addAll(b, nodes[1:])
		if !a.Same(b) || a.Has(lost) || everything(a, ids) != everything(b, ids) {
			t.Fatalf("without %d: %s and %s", lost, everything(a, ids), everything(b, ids))
		}
	}
}

// TestPasts is about P7.7 and P7.8: pasts, and what stands in them, by what the graph itself says.
func TestPasts(t *testing.T) {
	r := rand.New(rand.NewSource(3))
	for range 60 {
		nodes := randomNodes(r, 1+r.Intn(30), 1+r.Intn(4))
		g := build(t, nodes...)
		var all []int
		for _, n := range nodes {
			all = append(all, n.Id)
		}
		r.Shuffle(len(all), func(i, j int) { all[i], all[j] = all[j], all[i] })
		sorted := g.Sorted(all)
		for _, b := range all {
			past := g.Past(b)
			part := g.Restrict(append(randomIds(r, nodes, 3), b))
			if slices.Contains(past, b) || g.Before(b, b) || !slices.Equal(part.Past(b), past) {
				t.Fatalf("%v: the past of %d is %v, and in a part %v", nodes, b, past, part.Past(b))
			}
			for _, a := range past {
				if a >= b || g.Level(a) >= g.Level(b) || slices.Index(sorted, a) >= slices.Index(sorted, b) {
					t.Fatalf("%v: %d is before %d, and the levels are %d and %d in %v", nodes, a, b, g.Level(a), g.Level(b), sorted)
				}
				for _, first := range g.Past(a) {
					if !slices.Contains(past, first) {
						t.Fatalf("%v: %d is before %d, and this is before %d", nodes, first, a, b)
					}
				}
			}
		}
	}
}

// TestMany is about R1: graphs with as many nodes as there can be, and paths through them that are many, or long.
func TestMany(t *testing.T) {
	g := graph.New()
	for id := range api.MaxEvents {
		n := of(id)
		for p := max(0, id-3); p < id; p++ {
			n.Parents = append(n.Parents, p)
		}
		if e := g.Add(n); e != api.OK {
			t.Fatal(id, e)
		}
	}
	last := api.MaxEvents - 1
	if g.Len() != api.MaxEvents || g.Level(last) != last || !g.Before(0, last) || g.Before(last, 0) || !g.Before(last-1, last) {
		t.Error(g.Len(), g.Level(last), g.Before(0, last))
	}
	past := g.Past(last)
	if len(past) != last || past[0] != 0 || past[last-1] != last-1 || !slices.Equal(g.Heads(), []int{last}) {
		t.Error(len(past), g.Heads())
	}
	ids := make([]int, 500000)
	for i := range ids {
		ids[i] = last - i
	}
	if down, sorted := g.Down(ids), g.Sorted(ids); len(down) != api.MaxEvents || !slices.Equal(down, sorted) {
		t.Error(len(down), len(sorted))
	}
	if c, r := g.Copy(), g.Restrict(ids); !c.Same(g) || !g.Same(r) {
		t.Error("Same")
	}
	for a := range 100000 {
		if !g.Before(max(0, a-5), a) && a > 0 {
			t.Fatal(a)
		}
	}
	flat := graph.New()
	for id := range 50000 {
		flat.Add(of(id))
	}
	if e := flat.Add(of(99999, flat.Heads()...)); e != api.OK || len(flat.Past(99999)) != 50000 || flat.Level(99999) != 1 || !slices.Equal(flat.Heads(), []int{99999}) {
		t.Error(e)
	}
}
