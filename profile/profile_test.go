package profile_test

import (
	"math"
	"math/rand"
	"reflect"
	"slices"
	"strconv"
	"strings"
	"testing"
	"unsafe"

	"lingua/api"
	"lingua/profile"
	"lingua/syntax"
)

// first and second are the profiles p and q of the chapter's examples. What the examples do not say differs in all fields.
func first() api.Profile {
	return api.Profile{
		Name: "p", Edit: api.AbYes, Within: 5, Delete: api.AbMark, React: true, Thread: api.ThFlat, Quote: false, Mention: true,
		Size: 100, Parts: 3, Files: 2, Bytes: 1000, Types: []string{"png", "txt"}, Join: api.JoLink, History: api.HiAll, Remove: api.ReKey,
		Level: api.LvHeld, Batch: true, Rate: 4, Down: 2, Window: 10, Keep: 7,
	}
}

func second() api.Profile {
	return api.Profile{
		Name: "q", Edit: api.AbYes, Delete: api.AbYes, React: false, Thread: api.ThNone, Quote: true, Mention: false,
		Size: 200, Parts: 1, Files: 1, Bytes: 500, Types: []string{"txt", "jpg"}, Join: api.JoRole, History: api.HiSince, Remove: api.ReNow,
		Level: api.LvRead, Batch: false, Rate: 5, Down: 0, Window: 3, Keep: 0,
	}
}

// with returns a profile with a change.
func with(p api.Profile, change func(p *api.Profile)) api.Profile {
	change(&p)
	return p
}

// names returns n names of types.
func names(n int) []string {
	l := make([]string, n)
	for i := range l {
		l[i] = "t" + strconv.Itoa(i)
	}
	return l
}

// expectCheck expects what Check returns.
func expectCheck(t *testing.T, p api.Profile, want api.Errno) {
	t.Helper()
	if got := profile.Check(p); got != want {
		t.Errorf("Check(%+.200v) = %d, want %d", p, got, want)
	}
	if model := check(p); model != want {
		t.Errorf("the model of Check(%+.200v) = %d, want %d", p, model, want)
	}
}

// expectPair expects that AtMost, Meet and Join return what the model says.
func expectPair(t *testing.T, p, q api.Profile) {
	t.Helper()
	if got, want := profile.AtMost(p, q), atMost(p, q); got != want {
		t.Fatalf("AtMost(%+v, %+v) = %v, want %v", p, q, got, want)
	}
	if got, want := profile.Meet(p, q), meet(p, q); !same(got, want) {
		t.Fatalf("Meet(%+v, %+v) = %+v, want %+v", p, q, got, want)
	}
	if got, want := profile.Join(p, q), join(p, q); !same(got, want) {
		t.Fatalf("Join(%+v, %+v) = %+v, want %+v", p, q, got, want)
	}
}

// TestFields expects that the model knows all fields of a profile, each once.
func TestFields(t *testing.T) {
	known := append(slices.Clone(abilities), rules...)
	for _, field := range reflect.VisibleFields(reflect.TypeFor[api.Profile]()) {
		i := slices.Index(known, field.Name)
		if i < 0 {
			t.Fatalf("the field %s is unknown, or known twice", field.Name)
		}
		known = slices.Delete(known, i, i+1)
	}
	if len(known) > 0 {
		t.Errorf("profiles have no fields %q", known)
	}
}

// TestExamples is about P13.1 to P13.4: the examples of the chapter.
func TestExamples(t *testing.T) {
	p, q := first(), second()
	if profile.AtMost(p, q) || profile.AtMost(q, p) {
		t.Error("one of both is at most the other one")
	}
	want := first()
	want.Quote, want.React, want.Mention, want.Level = false, false, false, api.LvHeld
	want.Thread, want.Parts, want.Files, want.Bytes, want.Types = api.ThNone, 1, 1, 500, []string{"txt"}
	if got := profile.Meet(p, q); !same(got, want) {
		t.Errorf("Meet = %+v, want %+v", got, want)
	}
	want = first()
	want.Within, want.Delete, want.React, want.Quote, want.Mention = 0, api.AbYes, true, true, true
	want.Size, want.Types, want.Level = 200, []string{"png", "txt", "jpg"}, api.LvRead
	if got := profile.Join(p, q); !same(got, want) {
		t.Errorf("Join = %+v, want %+v", got, want)
	}
	expectCheck(t, p, api.OK)
	expectCheck(t, q, api.OK)
	expectCheck(t, with(p, func(p *api.Profile) { p.Size = 39 }), api.ErrRange)
	expectCheck(t, with(p, func(p *api.Profile) { p.Down, p.Window = 5, 5 }), api.ErrRange)
	expectPair(t, p, q)
	expectPair(t, q, p)
}

// TestCheckLimits is about P13.1: each number at its limits.
func TestCheckLimits(t *testing.T) {
	for _, c := range []struct {
		name        string
		least, most int
	}{
		{"Size", 40, 4000}, {"Parts", 1, 20}, {"Files", 1, 4}, {"Bytes", 1, 65536}, {"Rate", 1, 1 << 30}, {"Down", 0, 9}, {"Window", 3, 1 << 30}, {"Keep", 0, 1 << 30}, {"Within", 0, 1 << 30},
	} {
		for _, n := range []int{0, 1, 2, c.least - 1, c.least, c.least + 1, c.most - 1, c.most, c.most + 1, 1 << 30, 1<<30 + 1, -1, math.MinInt, math.MaxInt} {
			want := api.OK
			if n < 0 || n > 1<<30 || c.name == "Files" && n == 0 {
				want = api.ErrArg
			} else if n < c.least || n > c.most {
				want = api.ErrRange
			}
			expectCheck(t, with(first(), func(p *api.Profile) { setGrade(p, c.name, n) }), want)
		}
	}
}

// TestCheckOutages is about P13.1: Down is 0 or less than Window.
func TestCheckOutages(t *testing.T) {
	for down := range 6 {
		for window := range 6 {
			want := api.ErrRange
			if down == 0 || down < window {
				want = api.OK
			}
			expectCheck(t, with(first(), func(p *api.Profile) { p.Down, p.Window = down, window }), want)
		}
	}
	expectCheck(t, with(first(), func(p *api.Profile) { p.Down, p.Window = 1<<30-1, 1<<30 }), api.OK)
	expectCheck(t, with(first(), func(p *api.Profile) { p.Down, p.Window = 1<<30, 1<<30 }), api.ErrRange)
}

// TestCheckFiles is about P13.1: a profile says all about attachments, or nothing.
func TestCheckFiles(t *testing.T) {
	for i, want := range []api.Errno{
		api.OK,       // nothing
		api.ErrArg,   // Files alone: without types there is no declaration that says it
		api.ErrArg,   // Bytes alone
		api.ErrArg,   // Files and Bytes
		api.ErrArg,   // Types alone
		api.ErrRange, // Types and Files
		api.ErrArg,   // Types and Bytes
		api.OK,       // all
	} {
		p := with(first(), func(p *api.Profile) { p.Files, p.Bytes, p.Types = i&1, i>>1&1, names(i>>2) })
		expectCheck(t, p, want)
	}
	expectCheck(t, with(first(), func(p *api.Profile) { p.Files, p.Bytes, p.Types = 0, 0, []string{} }), api.OK)
}

// TestCheckTwice is about P13.1: two types at any two places are equal.
func TestCheckTwice(t *testing.T) {
	for n := 1; n <= 22; n++ {
		p := with(first(), func(p *api.Profile) { p.Types = names(n) })
		if n > 20 {
			expectCheck(t, p, api.ErrArg)
			continue
		}
		expectCheck(t, p, api.OK)
		for i := range n {
			for j := range i {
				p.Types = names(n)
				p.Types[i] = strings.Clone(p.Types[j])
				expectCheck(t, p, api.ErrTwice)
			}
		}
	}
	expectCheck(t, with(first(), func(p *api.Profile) { p.Types = []string{"a", "b", "a", "b", "a"} }), api.ErrTwice)
	expectCheck(t, with(first(), func(p *api.Profile) { p.Types = []string{"a", "aa", "a0"} }), api.OK)
}

// TestCheckFirst is about P13.1: of several errors the first one that applies.
func TestCheckFirst(t *testing.T) {
	wrong := []func(p *api.Profile){
		func(p *api.Profile) { p.Name = "" },
		func(p *api.Profile) { p.Name = "A" },
		func(p *api.Profile) { p.Edit, p.Within = api.AbMark, 0 },
		func(p *api.Profile) { p.Edit = api.AbNo },
		func(p *api.Profile) { p.Delete = api.AbKinds },
		func(p *api.Profile) { p.Thread = api.ThKinds },
		func(p *api.Profile) { p.Join = api.JoKinds },
		func(p *api.Profile) { p.History = api.HiKinds },
		func(p *api.Profile) { p.Remove = api.ReKinds },
		func(p *api.Profile) { p.Level = api.LvKinds },
		func(p *api.Profile) { p.Keep = -1 },
		func(p *api.Profile) { p.Types = append(slices.Clone(p.Types), "") },
		func(p *api.Profile) { p.Types = append(names(20), "t0") },
	}
	outside := []func(p *api.Profile){
		func(p *api.Profile) { p.Size = 39 },
		func(p *api.Profile) { p.Size = 4001 },
		func(p *api.Profile) { p.Parts = 0 },
		func(p *api.Profile) { p.Parts = 21 },
		func(p *api.Profile) { p.Files = 5 },
		func(p *api.Profile) { p.Bytes = 65537 },
		func(p *api.Profile) { p.Bytes = 0 },
		func(p *api.Profile) { p.Rate = 0 },
		func(p *api.Profile) { p.Down = 10 },
	}
	twice := with(first(), func(p *api.Profile) { p.Types = []string{"png", "txt", "png"} })
	expectCheck(t, twice, api.ErrTwice)
	for _, change := range wrong {
		expectCheck(t, with(first(), change), api.ErrArg)
		expectCheck(t, with(twice, change), api.ErrArg)
	}
	for _, change := range outside {
		expectCheck(t, with(first(), change), api.ErrRange)
		expectCheck(t, with(twice, change), api.ErrRange)
		for _, other := range wrong {
			expectCheck(t, with(with(twice, change), other), api.ErrArg)
		}
	}
	expectCheck(t, api.Profile{}, api.ErrArg)
	expectCheck(t, api.Profile{Name: "a"}, api.ErrRange)
	expectCheck(t, api.Profile{Name: "a", Size: 40, Parts: 1, Rate: 1}, api.OK)
}

// TestEachAbility is about P13.2: each ability alone decides, and no rule does.
func TestEachAbility(t *testing.T) {
	base := with(first(), func(p *api.Profile) { p.Delete, p.React, p.Mention, p.Level = api.AbNo, false, false, api.LvNone })
	for _, c := range []struct {
		what        string
		less, great func(p *api.Profile)
	}{
		{"Edit", func(p *api.Profile) { p.Edit, p.Within = api.AbNo, 0 }, func(p *api.Profile) {}},
		{"Within", func(p *api.Profile) { p.Within = 4 }, func(p *api.Profile) {}},
		{"Within 0", func(p *api.Profile) {}, func(p *api.Profile) { p.Within = 0 }},
		{"Delete mark", func(p *api.Profile) {}, func(p *api.Profile) { p.Delete = api.AbMark }},
		{"Delete yes", func(p *api.Profile) { p.Delete = api.AbMark }, func(p *api.Profile) { p.Delete = api.AbYes }},
		{"React", func(p *api.Profile) {}, func(p *api.Profile) { p.React = true }},
		{"Thread flat", func(p *api.Profile) { p.Thread = api.ThNone }, func(p *api.Profile) {}},
		{"Thread tree", func(p *api.Profile) {}, func(p *api.Profile) { p.Thread = api.ThTree }},
		{"Quote", func(p *api.Profile) {}, func(p *api.Profile) { p.Quote = true }},
		{"Mention", func(p *api.Profile) {}, func(p *api.Profile) { p.Mention = true }},
		{"Size", func(p *api.Profile) { p.Size = 99 }, func(p *api.Profile) {}},
		{"Parts", func(p *api.Profile) {}, func(p *api.Profile) { p.Parts = 4 }},
		{"Files", func(p *api.Profile) { p.Files = 1 }, func(p *api.Profile) {}},
		{"Bytes", func(p *api.Profile) {}, func(p *api.Profile) { p.Bytes = 1001 }},
		{"Types", func(p *api.Profile) { p.Types = []string{"txt"} }, func(p *api.Profile) {}},
		{"Level", func(p *api.Profile) {}, func(p *api.Profile) { p.Level = api.LvSent }},
	} {
		less, great := with(base, c.less), with(base, c.great)
		if !profile.AtMost(less, great) || profile.AtMost(great, less) {
			t.Errorf("%s does not decide", c.what)
		}
		other := with(less, func(p *api.Profile) {
			r := second()
			p.Name, p.Join, p.History, p.Remove, p.Batch, p.Rate, p.Down, p.Window, p.Keep = r.Name, r.Join, r.History, r.Remove, r.Batch, r.Rate, r.Down, r.Window, r.Keep
		})
		if !profile.AtMost(other, great) || profile.AtMost(great, other) || !profile.AtMost(less, other) || !profile.AtMost(other, less) {
			t.Errorf("rules make a difference beside %s", c.what)
		}
		for _, p := range []api.Profile{less, great, other} {
			expectCheck(t, p, api.OK)
			for _, q := range []api.Profile{less, great, other} {
				expectPair(t, p, q)
			}
		}
	}
}

// TestWithin is about P13.2 to P13.4: all kinds of Edit and small numbers of Within, right or not.
func TestWithin(t *testing.T) {
	for i := range 4 * 4 * 5 * 5 {
		p, q := first(), second()
		p.Edit, q.Edit, p.Within, q.Within = i%4-1, i/4%4-1, i/16%5-1, i/80-1
		expectPair(t, p, q)
	}
	for _, c := range []struct{ pEdit, pWithin, qEdit, qWithin, meet, join int }{
		{api.AbNo, 0, api.AbNo, 0, 0, 0},
		{api.AbNo, 0, api.AbYes, 6, 0, 6},
		{api.AbYes, 6, api.AbNo, 0, 0, 6},
		{api.AbYes, 0, api.AbNo, 0, 0, 0},
		{api.AbYes, 0, api.AbYes, 6, 6, 0},
		{api.AbYes, 6, api.AbYes, 0, 6, 0},
		{api.AbYes, 6, api.AbYes, 7, 6, 7},
		{api.AbYes, 7, api.AbYes, 6, 6, 7},
		{api.AbYes, 0, api.AbYes, 0, 0, 0},
		{api.AbNo, 8, api.AbYes, 6, 0, 6},
		{api.AbMark, 8, api.AbMark, 6, 6, 0},
		{api.AbMark, 8, api.AbYes, 6, 6, 6},
	} {
		p, q := first(), second()
		p.Edit, p.Within, q.Edit, q.Within = c.pEdit, c.pWithin, c.qEdit, c.qWithin
		if got := profile.Meet(p, q).Within; got != c.meet {
			t.Errorf("Meet of Edit %d within %d and %d within %d is within %d, want %d", c.pEdit, c.pWithin, c.qEdit, c.qWithin, got, c.meet)
		}
		if got := profile.Join(p, q).Within; got != c.join {
			t.Errorf("Join of Edit %d within %d and %d within %d is within %d, want %d", c.pEdit, c.pWithin, c.qEdit, c.qWithin, got, c.join)
		}
	}
}

// TestTypes is about P13.2 to P13.5: all lists of up to three of three types, some repeated, with some numbers of files and bytes.
func TestTypes(t *testing.T) {
	lists := [][]string{nil}
	for i := 0; len(lists[i]) < 3; i++ {
		for _, name := range []string{"a", "b", ""} {
			lists = append(lists, append(slices.Clone(lists[i]), name))
		}
	}
	for _, a := range lists {
		for _, b := range lists {
			for i := range 81 {
				p, q := first(), second()
				p.Types, q.Types = a, b
				p.Files, q.Files, p.Bytes, q.Bytes = i%3-1, i/3%3-1, i/9%3-1, i/27-1
				expectPair(t, p, q)
			}
		}
	}
	for _, c := range []struct{ p, q, meet, join string }{
		{"a b c", "c a d", "a c", "a b c d"},
		{"a a b", "a", "a a", "a a b"},
		{"a", "b a b", "a", "a b b"},
		{"a", "b", "", "a b"},
		{"", "b b", "", "b b"},
	} {
		p, q := first(), second()
		p.Types, q.Types = strings.Fields(c.p), strings.Fields(c.q)
		m, j := profile.Meet(p, q), profile.Join(p, q)
		if strings.Join(m.Types, " ") != c.meet || strings.Join(j.Types, " ") != c.join {
			t.Errorf("of the types %q and %q both are %q, and either %q", c.p, c.q, m.Types, j.Types)
		}
		if (c.meet == "") != (m.Files == 0) || (c.meet == "") != (m.Bytes == 0) {
			t.Errorf("with the types %q Meet has %d files of %d bytes", c.meet, m.Files, m.Bytes)
		}
	}
}

// rightProfile returns a profile that Check accepts.
func rightProfile(r *rand.Rand) api.Profile {
	p := api.Profile{
		Name: []string{"a", "b"}[r.Intn(2)], Edit: 2 * r.Intn(2), Delete: r.Intn(3), React: r.Intn(2) == 0, Thread: r.Intn(3), Quote: r.Intn(2) == 0, Mention: r.Intn(2) == 0,
		Size: 40 + r.Intn(2), Parts: 1 + r.Intn(2), Join: r.Intn(3), History: r.Intn(2), Remove: r.Intn(2), Level: r.Intn(5), Batch: r.Intn(2) == 0,
		Rate: 1 + r.Intn(3), Down: r.Intn(2), Window: 2 + r.Intn(3), Keep: r.Intn(3),
	}
	if p.Edit == api.AbYes {
		p.Within = r.Intn(4)
	}
	if r.Intn(4) > 0 {
		p.Files, p.Bytes = 1+r.Intn(4), 1+r.Intn(3)
		for _, i := range r.Perm(4)[:1+r.Intn(4)] {
			p.Types = append(p.Types, []string{"png", "pdf", "txt", "jpg"}[i])
		}
	}
	return p
}

// anyProfile returns a profile whose fields are anything.
func anyProfile(r *rand.Rand) api.Profile {
	number := func() int {
		return []int{0, 1, 2, 3, -1, 5, math.MaxInt, math.MinInt, r.Int(), r.Intn(9)}[r.Intn(10)]
	}
	p := rightProfile(r)
	v := reflect.ValueOf(&p).Elem()
	for i := range v.NumField() {
		if field := v.Field(i); field.Kind() == reflect.Int && r.Intn(3) == 0 {
			field.SetInt(int64(number()))
		}
	}
	if r.Intn(3) == 0 {
		p.Name = "\xff ; A"
		for range r.Intn(30) {
			p.Types = append(p.Types, []string{"", "png", "a b", "A", "\x00"}[r.Intn(5)])
		}
	}
	return p
}

// nearlyRight returns a profile that Check accepts, but for one field at most.
func nearlyRight(r *rand.Rand) api.Profile {
	p := rightProfile(r)
	switch r.Intn(8) {
	case 0:
		p.Size = []int{39, 4000, 4001}[r.Intn(3)]
	case 1:
		p.Parts = []int{0, 20, 21}[r.Intn(3)]
	case 2:
		p.Files = []int{0, 4, 5}[r.Intn(3)]
	case 3:
		p.Bytes = []int{0, 65536, 65537}[r.Intn(3)]
	case 4:
		p.Down = r.Intn(6)
	case 5:
		p.Types = append(p.Types, []string{"png", "gif"}[r.Intn(2)])
	case 6:
		p.Rate = 0
	}
	return p
}

// TestRandom is about P13.1 to P13.5: profiles by chance, right or not, against the model.
func TestRandom(t *testing.T) {
	r := rand.New(rand.NewSource(1))
	seen := map[api.Errno]int{}
	less := 0
	for range 30000 {
		p, q := anyProfile(r), anyProfile(r)
		if r.Intn(2) == 0 {
			q = with(p, func(p *api.Profile) { p.Within, p.Types, p.Level = q.Within, q.Types, q.Level })
		}
		expectPair(t, p, q)
		if atMost(p, q) {
			less++
		}
		for _, one := range []api.Profile{p, nearlyRight(r)} {
			want := check(one)
			expectCheck(t, one, want)
			seen[want]++
		}
	}
	for _, err := range []api.Errno{api.OK, api.ErrArg, api.ErrRange, api.ErrTwice} {
		if seen[err] < 300 {
			t.Errorf("met the error %d %d times", err, seen[err])
		}
	}
	if less < 1000 {
		t.Errorf("met %d pairs of which one is at most the other one", less)
	}
}

// small returns profiles that Check accepts and that differ in few abilities, in all ways, and some others.
func small() []api.Profile {
	var l []api.Profile
	for _, edit := range [][2]int{{api.AbNo, 0}, {api.AbYes, 0}, {api.AbYes, 1}, {api.AbYes, 2}} {
		for _, files := range []string{"", "1 1 a", "1 1 b", "2 1 a", "1 2 a", "1 1 a b", "2 2 b a"} {
			p := api.Profile{Name: "a", Edit: edit[0], Within: edit[1], Size: 40, Parts: 1, Rate: 1}
			if said := strings.Fields(files); len(said) > 0 {
				p.Files, _ = strconv.Atoi(said[0])
				p.Bytes, _ = strconv.Atoi(said[1])
				p.Types = said[2:]
			}
			l = append(l, p)
		}
	}
	r := rand.New(rand.NewSource(2))
	for range 30 {
		p := rightProfile(r)
		l = append(l, p, with(p, func(p *api.Profile) { slices.Reverse(p.Types); p.Keep++ }), profile.Meet(p, rightProfile(r)), profile.Join(p, rightProfile(r)))
	}
	return l
}

// TestOrder is about P13.6: AtMost is an order, Meet the greatest profile that is at most both, and Join the least one that both are at most.
func TestOrder(t *testing.T) {
	l := small()
	chains, bounds := 0, 0
	for _, p := range l {
		expectCheck(t, p, api.OK)
		if !profile.AtMost(p, p) {
			t.Fatalf("%+v is not at most itself", p)
		}
		for _, q := range l {
			m, j := profile.Meet(p, q), profile.Join(p, q)
			if !profile.AtMost(m, p) || !profile.AtMost(m, q) || !profile.AtMost(p, j) || !profile.AtMost(q, j) {
				t.Fatalf("%+v and %+v are not between %+v and %+v", p, q, m, j)
			}
			if profile.AtMost(p, q) && profile.AtMost(q, p) != sameAbilities(p, q) {
				t.Fatalf("%+v and %+v differ in more than the order of types, or not", p, q)
			}
			for _, r := range l {
				below, above := profile.AtMost(r, p) && profile.AtMost(r, q), profile.AtMost(p, r) && profile.AtMost(q, r)
				if below && !profile.AtMost(r, m) || above && !profile.AtMost(j, r) {
					t.Fatalf("%+v and %+v have a greater lesser profile than %+v, or a lesser greater one than %+v: %+v", p, q, m, j, r)
				}
				if profile.AtMost(p, q) && profile.AtMost(q, r) {
					chains++
					if !profile.AtMost(p, r) {
						t.Fatalf("%+v is at most %+v, which is at most %+v, but not the last one", p, q, r)
					}
				}
				if below || above {
					bounds++
				}
			}
		}
	}
	if chains < 1000 || bounds < 1000 {
		t.Errorf("met %d chains and %d bounds", chains, bounds)
	}
}

// TestAccepted is about P13.7: Check accepts what Meet and Join return, if both have at most 20 types in all.
func TestAccepted(t *testing.T) {
	l := small()
	for _, p := range l {
		for _, q := range l {
			expectCheck(t, profile.Meet(p, q), api.OK)
			expectCheck(t, profile.Join(p, q), api.OK)
		}
	}
	p, q := first(), second()
	p.Types = names(20)
	for from := range 21 {
		for n := 1; n <= 20; n++ {
			q.Types = names(from + n)[from:]
			want, all := api.OK, max(20, from+n)
			if all > 20 {
				want = api.ErrArg
			}
			j := profile.Join(p, q)
			if err := profile.Check(j); len(j.Types) != all || err != want {
				t.Errorf("Join of 20 types and %d of which %d are new has %d types, and Check returns %d, want %d", n, all-20, len(j.Types), err, want)
			}
			expectCheck(t, profile.Meet(p, q), api.OK)
			expectCheck(t, profile.Meet(q, p), api.OK)
		}
	}
}

// TestAbsorb is about P13.8: what Meet and Join return of a profile and itself, of one and a greater one, and of both.
func TestAbsorb(t *testing.T) {
	l := append(small(), first(), second())
	for _, p := range l {
		if m, j := profile.Meet(p, p), profile.Join(p, p); !same(m, p) || !same(j, p) {
			t.Fatalf("Meet and Join of %+v with itself are %+v and %+v", p, m, j)
		}
		for _, q := range l {
			m, j := profile.Meet(p, q), profile.Join(p, q)
			if !sameRules(m, p) || !sameRules(j, p) {
				t.Fatalf("Meet and Join of %+v and %+v have the rules of %+v and %+v", p, q, m, j)
			}
			if !sameAbilities(profile.Meet(p, j), p) || !sameAbilities(profile.Join(p, m), p) || !sameAbilities(profile.Meet(j, p), p) || !sameAbilities(profile.Join(m, p), p) {
				t.Fatalf("%+v does not absorb %+v and %+v", p, j, m)
			}
			if profile.AtMost(p, q) && (!sameAbilities(m, p) || !sameAbilities(j, q)) || profile.AtMost(q, p) && (!sameAbilities(m, q) || !sameAbilities(j, p)) {
				t.Fatalf("Meet and Join of %+v and %+v are %+v and %+v", p, q, m, j)
			}
		}
	}
}

// overlap reports whether two strings share bytes in memory. All strings of one byte are kept once by Go itself.
func overlap(a, b string) bool {
	if len(a) < 2 || len(b) < 2 {
		return false
	}
	at, to := uintptr(unsafe.Pointer(unsafe.StringData(a))), uintptr(unsafe.Pointer(unsafe.StringData(b)))
	return at < to+uintptr(len(b)) && to < at+uintptr(len(a))
}

// roomy returns a profile whose types lie in a longer list, and this list.
func roomy(p api.Profile) (api.Profile, []string) {
	p.Name = strings.Repeat(p.Name, 3)
	n := len(p.Types)
	room := make([]string, n, n+8)
	for i, name := range p.Types {
		room[i] = strings.Clone(name)
	}
	room = append(room, "a", "b", "c", "d", "e", "f", "g", "h")
	p.Types = room[:n]
	return p, slices.Clone(room)
}

// TestMemory is about P13.5: arguments stay as they are, and results share no memory with them nor with one another.
func TestMemory(t *testing.T) {
	for _, both := range [][2]api.Profile{{first(), second()}, {first(), first()}, {second(), with(second(), func(p *api.Profile) { p.Types = nil })}, {with(first(), func(p *api.Profile) { p.Types = nil }), first()}} {
		p, pRoom := roomy(both[0])
		q, qRoom := roomy(both[1])
		m, j := profile.Meet(p, q), profile.Join(p, q)
		profile.AtMost(p, q)
		profile.Check(p)
		if !slices.Equal(p.Types[:cap(p.Types)], pRoom) || !slices.Equal(q.Types[:cap(q.Types)], qRoom) {
			t.Errorf("the types became %q and %q", p.Types[:cap(p.Types)], q.Types[:cap(q.Types)])
		}
		for _, a := range append(slices.Concat(m.Types, j.Types), m.Name, j.Name) {
			for _, b := range append(slices.Concat(p.Types, q.Types), p.Name, q.Name) {
				if overlap(a, b) {
					t.Errorf("%q shares memory with %q", a, b)
				}
			}
		}
		for _, l := range [][]string{m.Types, j.Types} {
			for i := range l {
				l[i] = "x"
			}
			_ = append(l, "x", "y")
		}
		if !slices.Equal(p.Types[:cap(p.Types)], pRoom) || !slices.Equal(q.Types[:cap(q.Types)], qRoom) {
			t.Errorf("results share memory with the types %q and %q", p.Types[:cap(p.Types)], q.Types[:cap(q.Types)])
		}
		if again := profile.Meet(p, q); !same(again, meet(p, q)) {
			t.Errorf("Meet = %+v, want %+v", again, meet(p, q))
		}
		if again := profile.Join(p, q); !same(again, join(p, q)) {
			t.Errorf("Join = %+v, want %+v", again, join(p, q))
		}
	}
}

// TestLong is about P13.5: profiles with very many types.
func TestLong(t *testing.T) {
	const n = 1 << 17
	p, q := first(), second()
	p.Types, q.Types = names(n), names(n + n/2)[n/2:]
	m, j := profile.Meet(p, q), profile.Join(p, q)
	if profile.AtMost(p, q) || !profile.AtMost(m, q) || len(m.Types) != n/2 || len(j.Types) != n+n/2 || profile.Check(p) != api.ErrArg {
		t.Errorf("Meet has %d types, and Join %d", len(m.Types), len(j.Types))
	}
}

// TestDeclared is about P13.1, P13.3 and P13.4 with texts: what declarations say, and the texts of what they can do together.
func TestDeclared(t *testing.T) {
	const before, after = "network a ;\nedit ", "join invite ;\nhistory since ;\nremove now ;\nreceipts sent ;\nrate 4 down 2 of 10 ;\n"
	parse := func(s string) api.Profile {
		p, _, err := syntax.Parse(before + s + after)
		if err != api.OK {
			t.Fatalf("Parse(%q) = %d", s, err)
		}
		expectCheck(t, p, api.OK)
		return p
	}
	p := parse("yes within 5 ; delete mark ; react no ; thread flat ; quote no ; mention yes ; size 100 parts 3 ; files 2 bytes 1000 types png txt ;")
	q := parse("yes ; delete yes ; react yes ; thread none ; quote no ; mention yes ; size 200 parts 1 ; files 1 bytes 500 types txt jpg ;")
	for want, r := range map[string]api.Profile{
		"yes within 5 ;\ndelete mark ;\nreact no ;\nthread none ;\nquote no ;\nmention yes ;\nsize 100 parts 1 ;\nfiles 1 bytes 500 types txt ;\n":          profile.Meet(p, q),
		"yes ;\ndelete yes ;\nreact yes ;\nthread flat ;\nquote no ;\nmention yes ;\nsize 200 parts 3 ;\nfiles 2 bytes 1000 types png txt jpg ;\n":          profile.Join(p, q),
		"yes within 5 ;\ndelete mark ;\nreact no ;\nthread none ;\nquote no ;\nmention yes ;\nsize 100 parts 1 ;\n":                                         profile.Meet(p, with(q, func(q *api.Profile) { q.Types = []string{"jpg"} })),
		"no ;\ndelete mark ;\nreact no ;\nthread none ;\nquote no ;\nmention yes ;\nsize 100 parts 1 ;\nfiles 1 bytes 500 types txt ;\n":                    profile.Meet(p, with(q, func(q *api.Profile) { q.Edit = api.AbNo })),
		"yes within 5 ;\ndelete yes ;\nreact yes ;\nthread flat ;\nquote no ;\nmention yes ;\nsize 200 parts 3 ;\nfiles 2 bytes 1000 types png txt jpg ;\n": profile.Join(p, with(q, func(q *api.Profile) { q.Edit = api.AbNo })),
	} {
		if s, err := syntax.Print(r); s != before+want+after || err != api.OK {
			t.Errorf("printed %q, %d, want %q", s, err, want)
		}
	}
}

// TestPure is about P13.5 and R4: calls at the same time do not meet.
func TestPure(t *testing.T) {
	done := make(chan bool)
	p, q := first(), second()
	m, j := meet(p, q), join(p, q)
	for range 4 {
		go func() {
			ok := true
			for range 500 {
				ok = ok && same(profile.Meet(p, q), m) && same(profile.Join(p, q), j) && !profile.AtMost(p, q) && profile.Check(p) == api.OK
			}
			done <- ok
		}()
	}
	for range 4 {
		if !<-done {
			t.Error("a call at the same time returned something else")
		}
	}
}
