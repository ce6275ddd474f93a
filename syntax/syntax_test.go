package syntax_test

import (
	"math"
	"math/rand"
	"slices"
	"strconv"
	"strings"
	"testing"
	"unsafe"

	"lingua/api"
	"lingua/lex"
	"lingua/syntax"
)

// mail is the declaration of the chapter.
const mail = "network mail ; edit no ; delete no ; react no ; thread tree ; quote yes ; mention no ; size 900 parts 3 ; files 2 bytes 5000 types png pdf ; join invite ; history since ; remove now ; receipts sent ; rate 4 down 2 of 10 ;"

// least is a declaration without any part that may be missing, and most one with all of them.
const (
	least = "network a ; edit no ; delete no ; react no ; thread none ; quote no ; mention no ; size 0 parts 0 ; join invite ; history since ; remove now ; receipts none ; rate 0 down 0 of 0 ;"
	most  = "network z9 ; edit yes within 7 ; delete mark ; react yes ; thread flat ; quote yes ; mention yes ; size 1 parts 2 ; files 3 bytes 4 types t u t ; join role ; history all ; remove key ; receipts read batch ; rate 5 down 6 of 8 ; keep 9 ;"
)

// maxStep is the greatest number of a declaration.
const maxStep = 1073741824

// mailProfile returns what the declaration of the chapter says.
func mailProfile() api.Profile {
	return api.Profile{
		Name: "mail", Thread: api.ThTree, Quote: true, Size: 900, Parts: 3, Files: 2, Bytes: 5000, Types: []string{"png", "pdf"},
		Level: api.LvSent, Rate: 4, Down: 2, Window: 10,
	}
}

// mostProfile returns what the declaration most says.
func mostProfile() api.Profile {
	return api.Profile{
		Name: "z9", Edit: api.AbYes, Within: 7, Delete: api.AbMark, React: true, Thread: api.ThFlat, Quote: true, Mention: true,
		Size: 1, Parts: 2, Files: 3, Bytes: 4, Types: []string{"t", "u", "t"}, Join: api.JoRole, History: api.HiAll, Remove: api.ReKey,
		Level: api.LvRead, Batch: true, Rate: 5, Down: 6, Window: 8, Keep: 9,
	}
}

// same reports whether two profiles have the same fields.
func same(p, q api.Profile) bool { return slices.Equal(fields(p), fields(q)) }

// expectParse expects that Parse returns what the model says, and that what it returns is right and has a text that says it.
func expectParse(t *testing.T, g *node, s string) api.Errno {
	t.Helper()
	p, pos, err := syntax.Parse(s)
	want, wantPos, wantErr := parse(g, s)
	if !same(p, want) || pos != wantPos || err != wantErr {
		t.Fatalf("Parse(%q) = %v, %d, %d, want %v, %d, %d", s, p, pos, err, want, wantPos, wantErr)
	}
	if err == api.OK {
		if !syntax.Right(p) {
			t.Fatalf("Parse(%q) = %v, which is not right", s, p)
		}
		expectPrint(t, p)
	}
	return err
}

// expectPrint expects that Right and Print return what the model says, and that Parse returns the profile again.
func expectPrint(t *testing.T, p api.Profile) bool {
	t.Helper()
	isRight, want, wantErr := right(p), "", api.ErrArg
	if isRight {
		want, wantErr = written(p), api.OK
	}
	if got := syntax.Right(p); got != isRight {
		t.Fatalf("Right(%+v) = %v, want %v", p, got, isRight)
	}
	s, err := syntax.Print(p)
	if s != want || err != wantErr {
		t.Fatalf("Print(%+v) = %q, %d, want %q, %d", p, s, err, want, wantErr)
	}
	if !isRight {
		return false
	}
	again, pos, err := syntax.Parse(s)
	if !same(again, p) || pos != 0 || err != api.OK || !syntax.Same(again, p) {
		t.Fatalf("Parse(%q) = %+v, %d, %d, want %+v", s, again, pos, err, p)
	}
	return true
}

// expectError expects an error of Parse at some offset.
func expectError(t *testing.T, s string, pos int, err api.Errno) {
	t.Helper()
	if p, at, got := syntax.Parse(s); !same(p, api.Profile{}) || at != pos || got != err {
		t.Errorf("Parse(%q) = %v, %d, %d, want nothing, %d, %d", s, p, at, got, pos, err)
	}
}

// replaced returns a declaration with another text in the place of one that it has exactly once.
func replaced(t *testing.T, s, old, new string) string {
	t.Helper()
	if strings.Count(s, old) != 1 {
		t.Fatalf("%q is not once in %q", old, s)
	}
	return strings.Replace(s, old, new, 1)
}

// vocabulary returns all words and the sign of the grammar, other words, and numbers within and beyond all limits.
func vocabulary() []string {
	var l []string
	for _, symbol := range strings.Fields(grammar) {
		if (lex.Word(symbol) || symbol == ";") && !slices.Contains(l, symbol) {
			l = append(l, symbol)
		}
	}
	return append(l, "x", "yess", "n0", "0", "1", "20", strconv.Itoa(maxStep), strconv.Itoa(maxStep+1), "1099511627776")
}

// names returns n names of types.
func names(n int) []string {
	l := make([]string, n)
	for i := range l {
		l[i] = "t" + strconv.Itoa(i)
	}
	return l
}

// TestExamples is about P12.1 and P12.2: the examples of the chapter.
func TestExamples(t *testing.T) {
	p, pos, err := syntax.Parse(mail)
	if !same(p, mailProfile()) || pos != 0 || err != api.OK {
		t.Errorf("Parse = %+v, %d, %d, want %+v", p, pos, err, mailProfile())
	}
	want := strings.ReplaceAll(mail, " ; ", " ;\n") + "\n"
	if s, err := syntax.Print(p); s != want || err != api.OK {
		t.Errorf("Print = %q, %d, want %q", s, err, want)
	}
	expectError(t, "network", 7, api.ErrSyntax)
	expectError(t, "network mail ; edit yes within 0 ;", 31, api.ErrRange)
	expectError(t, "network mail ; delete no ;", 15, api.ErrSyntax)
	expectError(t, mail+" network", len(mail)+1, api.ErrSyntax)
}

// TestParts is about P12.1: what each part says, for all words that it permits.
func TestParts(t *testing.T) {
	base := strings.ReplaceAll(least, " ; ", " ;\n") + "\n"
	for _, c := range []struct {
		old, new string
		set      func(p *api.Profile)
	}{
		{"network a ;", "network network ;", func(p *api.Profile) { p.Name = "network" }},
		{"network a ;", "network aaaaaaaaaabbbbbbbb99 ;", func(p *api.Profile) { p.Name = "aaaaaaaaaabbbbbbbb99" }},
		{"edit no ;", "edit yes ;", func(p *api.Profile) { p.Edit = api.AbYes }},
		{"edit no ;", "edit yes within 5 ;", func(p *api.Profile) { p.Edit, p.Within = api.AbYes, 5 }},
		{"delete no ;", "delete mark ;", func(p *api.Profile) { p.Delete = api.AbMark }},
		{"delete no ;", "delete yes ;", func(p *api.Profile) { p.Delete = api.AbYes }},
		{"react no ;", "react yes ;", func(p *api.Profile) { p.React = true }},
		{"thread none ;", "thread flat ;", func(p *api.Profile) { p.Thread = api.ThFlat }},
		{"thread none ;", "thread tree ;", func(p *api.Profile) { p.Thread = api.ThTree }},
		{"quote no ;", "quote yes ;", func(p *api.Profile) { p.Quote = true }},
		{"mention no ;", "mention yes ;", func(p *api.Profile) { p.Mention = true }},
		{"size 0 parts 0 ;", "size 12 parts 34 ;", func(p *api.Profile) { p.Size, p.Parts = 12, 34 }},
		{"join invite ;", "files 5 bytes 0 types join ; join invite ;", func(p *api.Profile) { p.Files, p.Types = 5, []string{"join"} }},
		{"join invite ;", "files 1 bytes 6 types b a b ; join invite ;", func(p *api.Profile) { p.Files, p.Bytes, p.Types = 1, 6, []string{"b", "a", "b"} }},
		{"join invite ;", "join link ;", func(p *api.Profile) { p.Join = api.JoLink }},
		{"join invite ;", "join role ;", func(p *api.Profile) { p.Join = api.JoRole }},
		{"history since ;", "history all ;", func(p *api.Profile) { p.History = api.HiAll }},
		{"remove now ;", "remove key ;", func(p *api.Profile) { p.Remove = api.ReKey }},
		{"receipts none ;", "receipts none batch ;", func(p *api.Profile) { p.Batch = true }},
		{"receipts none ;", "receipts sent ;", func(p *api.Profile) { p.Level = api.LvSent }},
		{"receipts none ;", "receipts held ;", func(p *api.Profile) { p.Level = api.LvHeld }},
		{"receipts none ;", "receipts held batch ;", func(p *api.Profile) { p.Level, p.Batch = api.LvHeld, true }},
		{"receipts none ;", "receipts shown ;", func(p *api.Profile) { p.Level = api.LvShown }},
		{"receipts none ;", "receipts read ;", func(p *api.Profile) { p.Level = api.LvRead }},
		{"rate 0 down 0 of 0 ;", "rate 7 down 8 of 9 ;", func(p *api.Profile) { p.Rate, p.Down, p.Window = 7, 8, 9 }},
		{"of 0 ;", "of 0 ; keep 3 ;", func(p *api.Profile) { p.Keep = 3 }},
	} {
		s, want := replaced(t, base, c.old, strings.ReplaceAll(c.new, " ; ", " ;\n")), api.Profile{Name: "a"}
		c.set(&want)
		if p, pos, err := syntax.Parse(s); !same(p, want) || pos != 0 || err != api.OK {
			t.Errorf("Parse(%q) = %+v, %d, %d, want %+v", s, p, pos, err, want)
		}
		if text, err := syntax.Print(want); text != s || err != api.OK {
			t.Errorf("Print(%+v) = %q, %d, want %q", want, text, err, s)
		}
	}
}

// TestWhole is about P12.1 and P12.2: a declaration with all parts, and one without those that may be missing.
func TestWhole(t *testing.T) {
	for s, want := range map[string]api.Profile{least: {Name: "a"}, most: mostProfile()} {
		if p, pos, err := syntax.Parse(s); !same(p, want) || pos != 0 || err != api.OK {
			t.Errorf("Parse(%q) = %+v, %d, %d, want %+v", s, p, pos, err, want)
		}
		text := strings.ReplaceAll(s, " ; ", " ;\n") + "\n"
		if got, err := syntax.Print(want); got != text || err != api.OK {
			t.Errorf("Print(%+v) = %q, %d, want %q", want, got, err, text)
		}
	}
}

// TestEveryToken is about P12.1 and P12.6: each token of declarations replaced by any other one, or with any other one before it, and what follows it missing, or something else.
func TestEveryToken(t *testing.T) {
	g := theGrammar()
	seen := map[api.Errno]int{}
	for _, s := range []string{mail, least, most, replaced(t, most, " within 7", ""), replaced(t, least, "receipts none", "receipts none batch")} {
		l := strings.Fields(s)
		for i := range len(l) + 1 {
			before, rest := l[:i:i], l[i:]
			seen[expectParse(t, g, strings.Join(before, " "))]++
			if len(rest) > 0 {
				seen[expectParse(t, g, strings.Join(slices.Concat(before, rest[1:]), " "))]++
			}
			for _, word := range vocabulary() {
				seen[expectParse(t, g, strings.Join(slices.Concat(before, []string{word}, rest), " "))]++
				if len(rest) > 0 {
					seen[expectParse(t, g, strings.Join(slices.Concat(before, []string{word}, rest[1:]), " "))]++
				}
				expectTail(t, before, word)
			}
		}
	}
	if seen[api.OK] < 500 || seen[api.ErrSyntax] < 10000 || seen[api.ErrRange] < 50 {
		t.Errorf("met the errors %v", seen)
	}
}

// expectTail expects that what follows the token of an error makes no difference, if that is word.
func expectTail(t *testing.T, before []string, word string) {
	t.Helper()
	s := strings.Join(append(before, word), " ")
	_, pos, err := syntax.Parse(s)
	if err == api.OK || pos == len(s) {
		return
	}
	for _, tail := range []string{" ;", " 12", ";;", " network mail ; edit", " 0 0 0", "\n", strings.Repeat(" x", (api.MaxSource-len(s))/2)} {
		if p, at, got := syntax.Parse(s + tail); !same(p, api.Profile{}) || at != pos || got != err {
			t.Fatalf("Parse(%q) = %v, %d, %d, want the error %d at %d", s+tail, p, at, got, err, pos)
		}
	}
}

// TestNumbers is about P12.1 and P12.2: each number at its limits.
func TestNumbers(t *testing.T) {
	for _, c := range []struct {
		before string
		least  int
		set    func(p *api.Profile, n int)
	}{
		{"within ", 1, func(p *api.Profile, n int) { p.Within = n }},
		{"size ", 0, func(p *api.Profile, n int) { p.Size = n }},
		{"parts ", 0, func(p *api.Profile, n int) { p.Parts = n }},
		{"files ", 1, func(p *api.Profile, n int) { p.Files = n }},
		{"bytes ", 0, func(p *api.Profile, n int) { p.Bytes = n }},
		{"rate ", 0, func(p *api.Profile, n int) { p.Rate = n }},
		{"down ", 0, func(p *api.Profile, n int) { p.Down = n }},
		{"of ", 0, func(p *api.Profile, n int) { p.Window = n }},
		{"keep ", 1, func(p *api.Profile, n int) { p.Keep = n }},
	} {
		pos := strings.Index(most, c.before) + len(c.before)
		before, rest := most[:pos], most[pos+1:]
		for _, n := range []int{0, 1, 2, 12345, maxStep - 1, maxStep, maxStep + 1, 1<<32 + 1, 1 << 40} {
			s, want := before+strconv.Itoa(n)+rest, mostProfile()
			c.set(&want, n)
			if n < c.least || n > maxStep {
				expectError(t, s, pos, api.ErrRange)
				continue
			}
			if p, at, err := syntax.Parse(s); !same(p, want) || at != 0 || err != api.OK {
				t.Errorf("Parse(%q) = %+v, %d, %d, want %+v", s, p, at, err, want)
			}
			expectPrint(t, want)
		}
		for _, n := range []int{-1, maxStep + 1, 1 << 40, math.MaxInt, math.MinInt} {
			p := mostProfile()
			c.set(&p, n)
			if s, err := syntax.Print(p); syntax.Right(p) || s != "" || err != api.ErrArg {
				t.Errorf("%s%d is printed as %q, with the error %d", c.before, n, s, err)
			}
		}
		expectError(t, before+"1099511627777"+rest, pos, api.ErrRange)
		expectError(t, before+"x"+rest, pos, api.ErrSyntax)
		expectError(t, before+";"+rest, pos, api.ErrSyntax)
		expectError(t, before, len(before), api.ErrSyntax)
	}
}

// TestTypes is about P12.1 and P12.2: 19 to 22 names of types, and other errors before and after the one that is too many.
func TestTypes(t *testing.T) {
	g := theGrammar()
	for n := 1; n <= 25; n++ {
		list := strings.Join(names(n), " ")
		s := replaced(t, most, "types t u t", "types "+list)
		p := mostProfile()
		p.Types = names(n)
		if n <= 20 {
			if got, pos, err := syntax.Parse(s); !same(got, p) || pos != 0 || err != api.OK {
				t.Errorf("Parse(%q) = %+v, %d, %d, want %+v", s, got, pos, err, p)
			}
		} else {
			expectError(t, s, strings.Index(s, " t20")+1, api.ErrFull)
			expectError(t, s[:strings.Index(s, list)+len(list)], strings.Index(s, " t20")+1, api.ErrFull)
		}
		if isRight := expectPrint(t, p); isRight != (n <= 20) {
			t.Errorf("with %d types a profile is right: %v", n, isRight)
		}
		expectParse(t, g, replaced(t, s, "bytes 4", "bytes 1073741825"))
		expectParse(t, g, replaced(t, s, list+" ;", list))
		expectParse(t, g, replaced(t, s, list+" ;", list+" 7"))
		expectParse(t, g, replaced(t, s, list+" ;", list+" ; ;"))
		expectParse(t, g, replaced(t, s, list+" ;", list+" "+strings.Repeat("x", 21)))
	}
	all := strings.Join(vocabulary()[:20], " ")
	expectParse(t, g, replaced(t, most, "types t u t", "types "+strings.ReplaceAll(all, " ;", "")))
}

// TestFirstError is about P12.1: a token that cannot be one decides before all others, and then the first token with an error.
func TestFirstError(t *testing.T) {
	expectError(t, "; $", 2, api.ErrToken)
	expectError(t, "network mail ; edit yes within 0 ; 007", 35, api.ErrRange)
	expectError(t, "network mail ; edit yes within 0 ; "+strings.Repeat("a", 21), 35, api.ErrName)
	expectError(t, strings.Repeat("a", 21)+" $", 0, api.ErrName)
	expectError(t, strings.Repeat(" ", 2001), 0, api.ErrFull)
	expectError(t, strings.Repeat(" ", 2000), 2000, api.ErrSyntax)
	expectError(t, "", 0, api.ErrSyntax)
	expectError(t, "network mail ; edit yes within 0 0", 31, api.ErrRange)
	expectError(t, "network mail ; edit no within 0", 23, api.ErrSyntax)
	expectError(t, "network mail ; edit mark", 20, api.ErrSyntax)
	expectError(t, "network 7 ;", 8, api.ErrSyntax)
	expectError(t, "network ; ;", 8, api.ErrSyntax)
	expectError(t, "Network mail ;", 0, api.ErrToken)
	expectError(t, "network mail", 12, api.ErrSyntax)
	expectError(t, "network mail \n\t", 15, api.ErrSyntax)
	twice := replaced(t, replaced(t, most, "size 1 ", "size 1073741825 "), "files 3", "files 0")
	expectError(t, twice, strings.Index(twice, "1073741825"), api.ErrRange)
	expectError(t, most+" keep 9 ;", len(most)+1, api.ErrSyntax)
	expectError(t, most+" "+most, len(most)+1, api.ErrSyntax)
	expectError(t, most[:len(most)-2], len(most)-2, api.ErrSyntax)
}

// TestSource is about P12.1: declarations of 1999 to 2001 bytes.
func TestSource(t *testing.T) {
	for _, n := range []int{1999, 2000, 2001, 3000, 1 << 20} {
		for _, s := range []string{most + strings.Repeat("\n", n-len(most)), strings.Repeat(" ", n-len(most)) + most, strings.Replace(most, " ; size", strings.Repeat("\t", n-len(most))+" ; size", 1)} {
			p, pos, err := syntax.Parse(s)
			if n <= 2000 && (!same(p, mostProfile()) || pos != 0 || err != api.OK) {
				t.Errorf("Parse of %d bytes = %+v, %d, %d", n, p, pos, err)
			}
			if n > 2000 && (!same(p, api.Profile{}) || pos != 0 || err != api.ErrFull) {
				t.Errorf("Parse of %d bytes = %+v, %d, %d, want ErrFull at 0", n, p, pos, err)
			}
		}
	}
}

// TestEveryKind is about P12.2 and P12.5: all words of all parts together.
func TestEveryKind(t *testing.T) {
	count := 0
	for i := range 3 * 3 * 3 * 3 * 2 * 2 * 5 * 16 * 2 {
		p := mailProfile()
		choose := func(n int) int {
			chosen := i % n
			i /= n
			return chosen
		}
		p.Edit, p.Delete, p.Thread, p.Join = choose(3), choose(3), choose(3), choose(3)
		p.History, p.Remove, p.Level = choose(2), choose(2), choose(5)
		p.React, p.Quote, p.Mention, p.Batch = choose(2) == 1, choose(2) == 1, choose(2) == 1, choose(2) == 1
		p.Within = 12 * choose(2)
		if expectPrint(t, p) {
			count++
		}
	}
	if want := 3 * 27 * 20 * 16; count != want {
		t.Errorf("%d profiles are right, want %d", count, want)
	}
}

// TestWrong is about P12.2: profiles that no declaration says, by one field or by two that do not fit.
func TestWrong(t *testing.T) {
	wrong := []func(p *api.Profile){}
	for _, name := range []string{"", "A", "1a", "a b", "a;", " a", "a\n", "\u00e9", "mail ; edit no", strings.Repeat("a", 21), strings.Repeat("a", 1<<20)} {
		wrong = append(wrong, func(p *api.Profile) { p.Name = name }, func(p *api.Profile) { p.Types = []string{"ok", name, "ok"} }, func(p *api.Profile) { p.Types = []string{name} })
	}
	for _, n := range []int{-1, math.MinInt, math.MaxInt, 5, 1 << 32} {
		wrong = append(wrong, func(p *api.Profile) { p.Edit = n }, func(p *api.Profile) { p.Delete = n }, func(p *api.Profile) { p.Thread = n },
			func(p *api.Profile) { p.Join = n }, func(p *api.Profile) { p.History = n }, func(p *api.Profile) { p.Remove = n }, func(p *api.Profile) { p.Level = n })
	}
	wrong = append(wrong,
		func(p *api.Profile) { p.Edit = api.AbMark },
		func(p *api.Profile) { p.Edit, p.Within = api.AbMark, 0 },
		func(p *api.Profile) { p.Edit = api.AbNo },
		func(p *api.Profile) { p.Edit = api.AbKinds },
		func(p *api.Profile) { p.Delete = api.AbKinds },
		func(p *api.Profile) { p.Thread = api.ThKinds },
		func(p *api.Profile) { p.Join = api.JoKinds },
		func(p *api.Profile) { p.History = api.HiKinds },
		func(p *api.Profile) { p.Remove = api.ReKinds },
		func(p *api.Profile) { p.Level = api.LvKinds },
		func(p *api.Profile) { p.Files = 0 },
		func(p *api.Profile) { p.Files, p.Bytes = 0, 0 },
		func(p *api.Profile) { p.Files, p.Types = 0, nil },
		func(p *api.Profile) { p.Types = nil },
		func(p *api.Profile) { p.Types = []string{} },
		func(p *api.Profile) { p.Bytes, p.Types = 0, nil },
		func(p *api.Profile) { p.Types = names(21) },
		func(p *api.Profile) { p.Types = names(1 << 16) })
	for i, change := range wrong {
		p := mostProfile()
		change(&p)
		if s, err := syntax.Print(p); syntax.Right(p) || s != "" || err != api.ErrArg || right(p) {
			t.Errorf("the wrong profile %d is right: %v, and printed as %.99q, %d", i, syntax.Right(p), s, err)
		}
	}
	for _, p := range []api.Profile{{}, {Name: "a", Within: 1}, {Name: "a", Types: []string{"b"}}, {Name: "a", Bytes: 1}} {
		if s, err := syntax.Print(p); syntax.Right(p) || s != "" || err != api.ErrArg {
			t.Errorf("%+v is right: %v, and printed as %q, %d", p, syntax.Right(p), s, err)
		}
	}
	for _, p := range []api.Profile{{Name: "a"}, {Name: "a", Types: []string{}}, {Name: "a", Edit: api.AbYes}, mostProfile(), mailProfile()} {
		if !expectPrint(t, p) {
			t.Errorf("%+v is not right", p)
		}
	}
}

// TestLongest is about P12.2: the longest canonical text is not too long to be parsed.
func TestLongest(t *testing.T) {
	long := strings.Repeat("w", 20)
	p := api.Profile{
		Name: long, Edit: api.AbYes, Within: maxStep, Delete: api.AbMark, Thread: api.ThTree, Size: maxStep, Parts: maxStep,
		Files: maxStep, Bytes: maxStep, Types: slices.Repeat([]string{long}, 20), Join: api.JoInvite, Level: api.LvShown, Batch: true,
		Rate: maxStep, Down: maxStep, Window: maxStep, Keep: maxStep,
	}
	p.React, p.Quote, p.Mention = true, true, true
	if s, err := syntax.Print(p); !expectPrint(t, p) || len(s) > 2000 || err != api.OK {
		t.Errorf("the text has %d bytes, and the error %d", len(s), err)
	}
}

// others returns profiles that differ from one in a field each.
func others(p api.Profile) []api.Profile {
	var l []api.Profile
	add := func(change func(q *api.Profile)) {
		q := p
		q.Types = slices.Clone(p.Types)
		change(&q)
		l = append(l, q)
	}
	for _, d := range []int{1, -1, 1 << 32, math.MinInt} {
		add(func(q *api.Profile) { q.Edit += d })
		add(func(q *api.Profile) { q.Within += d })
		add(func(q *api.Profile) { q.Delete += d })
		add(func(q *api.Profile) { q.Thread += d })
		add(func(q *api.Profile) { q.Size += d })
		add(func(q *api.Profile) { q.Parts += d })
		add(func(q *api.Profile) { q.Files += d })
		add(func(q *api.Profile) { q.Bytes += d })
		add(func(q *api.Profile) { q.Join += d })
		add(func(q *api.Profile) { q.History += d })
		add(func(q *api.Profile) { q.Remove += d })
		add(func(q *api.Profile) { q.Level += d })
		add(func(q *api.Profile) { q.Rate += d })
		add(func(q *api.Profile) { q.Down += d })
		add(func(q *api.Profile) { q.Window += d })
		add(func(q *api.Profile) { q.Keep += d })
	}
	add(func(q *api.Profile) { q.React = !q.React })
	add(func(q *api.Profile) { q.Quote = !q.Quote })
	add(func(q *api.Profile) { q.Mention = !q.Mention })
	add(func(q *api.Profile) { q.Batch = !q.Batch })
	add(func(q *api.Profile) { q.Name += " " })
	add(func(q *api.Profile) { q.Types = append(q.Types, "") })
	add(func(q *api.Profile) { q.Types = append([]string{"x"}, q.Types...) })
	if n := len(p.Types); n > 0 {
		add(func(q *api.Profile) { q.Types = q.Types[:n-1] })
		add(func(q *api.Profile) { q.Types[n-1] += "x" })
	}
	return l
}

// TestSame is about P12.3: profiles that differ in one field, right or not, are not the same.
func TestSame(t *testing.T) {
	swapped := mailProfile()
	slices.Reverse(swapped.Types)
	odd := api.Profile{Name: "\xff", Edit: -5, Types: []string{"", ""}}
	for _, p := range []api.Profile{{}, mailProfile(), mostProfile(), swapped, odd} {
		q := p
		q.Types = slices.Clone(p.Types)
		if !syntax.Same(p, p) || !syntax.Same(p, q) {
			t.Errorf("%+v is not the same as itself", p)
		}
		for _, q := range others(p) {
			if syntax.Same(p, q) || syntax.Same(q, p) || !syntax.Same(q, q) {
				t.Errorf("%+v is the same as %+v", p, q)
			}
		}
	}
	if syntax.Same(swapped, mailProfile()) {
		t.Error("the order of types makes no difference")
	}
	if !syntax.Same(api.Profile{}, api.Profile{Types: []string{}}) || !syntax.Same(api.Profile{Types: []string{}}, api.Profile{}) {
		t.Error("nil and empty types are not the same")
	}
}

// TestOptional is about P12.7: without a part that may be missing a declaration says the same, but for its fields.
func TestOptional(t *testing.T) {
	parts := []struct {
		text string
		set  func(p *api.Profile)
	}{
		{" within 7", func(p *api.Profile) { p.Within = 0 }},
		{" files 3 bytes 4 types t u t ;", func(p *api.Profile) { p.Files, p.Bytes, p.Types = 0, 0, nil }},
		{" batch", func(p *api.Profile) { p.Batch = false }},
		{" keep 9 ;", func(p *api.Profile) { p.Keep = 0 }},
	}
	for chosen := range 1 << len(parts) {
		s, want := most, mostProfile()
		for i, part := range parts {
			if chosen>>i&1 == 1 {
				s = replaced(t, s, part.text, "")
				part.set(&want)
			}
		}
		if p, pos, err := syntax.Parse(s); !same(p, want) || pos != 0 || err != api.OK {
			t.Errorf("Parse(%q) = %+v, %d, %d, want %+v", s, p, pos, err, want)
		}
		expectPrint(t, want)
	}
}

// randomProfile returns a profile that is right, or nearly.
func randomProfile(r *rand.Rand) api.Profile {
	words := vocabulary()
	number := func(n int) int {
		switch r.Intn(60) {
		case 0:
			return []int{-1, n, maxStep + 1, 1 << 40}[r.Intn(4)]
		case 1, 2, 3:
			return []int{0, maxStep, maxStep - 1, 1}[r.Intn(4)] % max(n, 1)
		}
		return r.Intn(n)
	}
	p := api.Profile{Name: words[r.Intn(len(words)-9)]}
	p.Edit, p.Delete, p.Thread, p.Join, p.History, p.Remove, p.Level = 2*number(2), number(3), number(3), number(3), number(2), number(2), number(5)
	p.React, p.Quote, p.Mention, p.Batch = r.Intn(2) == 0, r.Intn(2) == 0, r.Intn(2) == 0, r.Intn(2) == 0
	p.Size, p.Parts, p.Rate, p.Down, p.Window = number(maxStep+1), number(40), number(9), number(9), number(maxStep+1)
	p.Keep = number(maxStep+1) * r.Intn(2)
	if p.Edit == api.AbYes || r.Intn(30) == 0 {
		p.Within = number(maxStep+1) * r.Intn(2)
	}
	if r.Intn(2) == 0 {
		p.Files, p.Bytes = number(9), number(maxStep+1)
		for range r.Intn(22) {
			p.Types = append(p.Types, words[r.Intn(len(words)-9)])
		}
	}
	return p
}

// spaced returns a declaration with other blanks between its tokens, and perhaps none where none is needed.
func spaced(r *rand.Rand, s string) string {
	var b strings.Builder
	last := ";"
	for _, token := range append(strings.Fields(s), ";") {
		if n := r.Intn(4); n > 0 || last != ";" && token != ";" {
			b.WriteString([]string{" ", "\n", "\t \n", "  "}[r.Intn(4)])
		}
		b.WriteString(token)
		last = token
	}
	return strings.TrimSuffix(b.String(), ";")
}

// TestRandom is about P12.1, P12.2, P12.3 and P12.5: profiles by chance, their texts with any blanks, and those with a few errors.
func TestRandom(t *testing.T) {
	g := theGrammar()
	r := rand.New(rand.NewSource(1))
	rights, seen := 0, map[api.Errno]int{}
	for range 4000 {
		p, q := randomProfile(r), randomProfile(r)
		if syntax.Same(p, q) != same(p, q) {
			t.Fatalf("Same(%+v, %+v) = %v", p, q, syntax.Same(p, q))
		}
		if !expectPrint(t, p) {
			continue
		}
		rights++
		s := spaced(r, written(p))
		if got, pos, err := syntax.Parse(s); len(s) <= api.MaxSource && (!same(got, p) || pos != 0 || err != api.OK) {
			t.Fatalf("Parse(%q) = %+v, %d, %d, want %+v", s, got, pos, err, p)
		}
		l := strings.Fields(s)
		for range 1 + r.Intn(3) {
			l[r.Intn(len(l))] = vocabulary()[r.Intn(len(vocabulary()))]
		}
		seen[expectParse(t, g, strings.Join(l, " "))]++
	}
	if rights < 1000 || rights > 3500 || seen[api.ErrSyntax] < 500 || seen[api.ErrRange] < 10 || seen[api.OK] < 50 {
		t.Errorf("met %d right profiles, and the errors %v", rights, seen)
	}
}

// overlap reports whether two strings share bytes in memory. All strings of one byte are kept once by Go itself.
func overlap(a, b string) bool {
	if len(a) < 2 || len(b) < 2 {
		return false
	}
	at, to := uintptr(unsafe.Pointer(unsafe.StringData(a))), uintptr(unsafe.Pointer(unsafe.StringData(b)))
	return at < to+uintptr(len(b)) && to < at+uintptr(len(a))
}

// TestMemory is about P12.4: results share no memory with arguments nor with earlier results, and arguments stay as they are.
func TestMemory(t *testing.T) {
	source := strings.Clone(mail)
	p, _, _ := syntax.Parse(source)
	text, _ := syntax.Print(p)
	for _, s := range append(slices.Clone(p.Types), p.Name) {
		if overlap(s, source) || overlap(s, text) {
			t.Errorf("%q shares memory with another text", s)
		}
	}
	room := []string{"png", "pdf", "room"}
	q := mailProfile()
	q.Types = room[:2]
	syntax.Print(q)
	syntax.Right(q)
	syntax.Same(q, p)
	if !same(q, mailProfile()) || room[2] != "room" {
		t.Errorf("the profile became %+v, and what follows its types %q", q, room[2])
	}
	p.Types[0] = "x"
	if again, _, _ := syntax.Parse(source); !same(again, mailProfile()) {
		t.Errorf("Parse = %+v, want %+v", again, mailProfile())
	}
	empty, _, _ := syntax.Parse(least)
	if empty.Types = append(empty.Types, "x"); len(empty.Types) != 1 {
		t.Errorf("no types became %q", empty.Types)
	}
}

// TestPure is about P12.4 and R4: calls at the same time do not meet.
func TestPure(t *testing.T) {
	done := make(chan bool)
	for i := range 4 {
		go func() {
			ok := true
			for k := range 200 {
				p := mostProfile()
				p.Size, p.Level = i*1000+k, k%5
				s, err := syntax.Print(p)
				q, _, other := syntax.Parse(s)
				ok = ok && err == api.OK && other == api.OK && same(p, q) && syntax.Same(p, q) && syntax.Right(q)
			}
			done <- ok
		}()
	}
	for range 4 {
		if !<-done {
			t.Error("a call at the same time returned something else")
		}
	}
}
