package lex_test

import (
	"math/big"
	"math/rand"
	"regexp"
	"slices"
	"strconv"
	"strings"
	"testing"
	"unsafe"

	"lingua/api"
	"lingua/lex"
)

// model is the definitions of the chapter, as regular expressions.
type model struct{ blanks, word, number, validWord, validNumber *regexp.Regexp }

// newModel returns the model.
func newModel() model {
	return model{
		blanks:      regexp.MustCompile(`^[\x09\x0a\x20]+`),
		word:        regexp.MustCompile(`^[a-z][a-z0-9]*`),
		number:      regexp.MustCompile(`^[0-9]+`),
		validWord:   regexp.MustCompile(`^[a-z][a-z0-9]{0,19}$`),
		validNumber: regexp.MustCompile(`^(0|[1-9][0-9]*)$`),
	}
}

// value returns the value of a valid number.
func (m model) value(s string) (int, bool) {
	n, ok := new(big.Int).SetString(s, 10)
	if !m.validNumber.MatchString(s) || !ok || n.Cmp(big.NewInt(1099511627776)) > 0 {
		return 0, false
	}
	return int(n.Int64()), true
}

// lex returns what Lex is to return.
func (m model) lex(s string) ([]api.Token, int, api.Errno) {
	if len(s) > 2000 {
		return nil, 0, api.ErrFull
	}
	var l []api.Token
	for pos := 0; pos < len(s); {
		rest := s[pos:]
		if text := m.blanks.FindString(rest); text != "" {
			pos += len(text)
			continue
		}
		t := api.Token{Pos: pos}
		if t.Text = m.word.FindString(rest); t.Text != "" {
			t.Kind = api.TkWord
			if !m.validWord.MatchString(t.Text) {
				return nil, pos, api.ErrName
			}
		} else if t.Text = m.number.FindString(rest); t.Text != "" {
			t.Kind = api.TkNumber
			n, ok := m.value(t.Text)
			if !ok {
				return nil, pos, api.ErrRange
			}
			t.N = n
		} else if rest[0] == 59 {
			t.Kind, t.Text = api.TkSign, ";"
		} else {
			return nil, pos, api.ErrToken
		}
		l = append(l, t)
		pos += len(t.Text)
	}
	return append(l, api.Token{Kind: api.TkEnd, Pos: len(s)}), 0, api.OK
}

// theText is the definition of the text of tokens.
func theText(l []api.Token) string {
	var texts []string
	for _, t := range l {
		if t.Kind != 3 {
			texts = append(texts, t.Text)
		}
	}
	return strings.Join(texts, string([]byte{32}))
}

// placed returns tokens whose positions are greater by some number.
func placed(l []api.Token, more int) []api.Token {
	l = slices.Clone(l)
	for i := range l {
		l[i].Pos += more
	}
	return l
}

// loose returns tokens without their positions.
func loose(l []api.Token) []api.Token {
	l = slices.Clone(l)
	for i := range l {
		l[i].Pos = 0
	}
	return l
}

// expectLex expects that Lex returns what the model says, and that P11.5 and P11.6 hold of it.
func (m model) expectLex(t *testing.T, s string) {
	t.Helper()
	got, pos, err := lex.Lex(s)
	want, wantPos, wantErr := m.lex(s)
	if !slices.Equal(got, want) || pos != wantPos || err != wantErr {
		t.Fatalf("Lex(%q) = %v, %d, %d, want %v, %d, %d", s, got, pos, err, want, wantPos, wantErr)
	}
	if err == api.OK {
		expectAgain(t, got)
		expectCovered(t, s, got)
		return
	}
	if _, _, before := lex.Lex(s[:pos]); before != api.OK {
		t.Fatalf("Lex(%q) has the error %d at %d, but an error %d before it", s, err, pos, before)
	}
}

// expectAgain expects that the text of what Lex has returned has the same tokens, and the same text again.
func expectAgain(t *testing.T, l []api.Token) {
	t.Helper()
	text := lex.Text(l)
	if want := theText(l); text != want {
		t.Fatalf("Text(%v) = %q, want %q", l, text, want)
	}
	if len(text) > api.MaxSource {
		return
	}
	again, pos, err := lex.Lex(text)
	if !slices.Equal(loose(again), loose(l)) || pos != 0 || err != api.OK || lex.Text(again) != text {
		t.Fatalf("Lex(%q) = %v, %d, %d, want the tokens %v", text, again, pos, err, l)
	}
}

// expectCovered expects that the tokens of a string are in order, do not overlap, and leave blanks alone.
func expectCovered(t *testing.T, s string, l []api.Token) {
	t.Helper()
	end := 0
	for i, token := range l {
		if token.Pos < end || token.Pos > len(s) || !strings.HasPrefix(s[token.Pos:], token.Text) {
			t.Fatalf("Lex(%q) = %v, whose token %d is not there", s, l, i)
		}
		if between := strings.Trim(s[end:token.Pos], "\t\n "); between != "" {
			t.Fatalf("Lex(%q) = %v, without %q", s, l, between)
		}
		if isEnd := token == (api.Token{Kind: 3, Pos: len(s)}); isEnd != (i == len(l)-1) {
			t.Fatalf("Lex(%q) = %v, whose token %d is the end: %v", s, l, i, isEnd)
		}
		end = token.Pos + len(token.Text)
	}
}

// expectJoined expects of s, a blank and u what P11.6 says.
func expectJoined(t *testing.T, s, blank, u string) {
	t.Helper()
	l, _, err := lex.Lex(s)
	k, _, other := lex.Lex(u)
	if err != api.OK || other != api.OK || len(s)+1+len(u) > api.MaxSource {
		return
	}
	want := append(l[:len(l)-1:len(l)-1], placed(k, len(s)+1)...)
	if got, pos, err := lex.Lex(s + blank + u); !slices.Equal(got, want) || pos != 0 || err != api.OK {
		t.Fatalf("Lex(%q) = %v, %d, %d, want %v", s+blank+u, got, pos, err, want)
	}
}

// expectText expects that Text returns what the definition says.
func expectText(t *testing.T, l []api.Token) {
	t.Helper()
	if got, want := lex.Text(l), theText(l); got != want {
		t.Fatalf("Text(%v) = %q, want %q", l, got, want)
	}
}

// expectWhole expects that Word and Number return what the model says, and what Lex makes of the string.
func (m model) expectWhole(t *testing.T, s string) {
	t.Helper()
	isWord := lex.Word(s)
	if want := m.validWord.MatchString(s); isWord != want {
		t.Fatalf("Word(%q) = %v, want %v", s, isWord, want)
	}
	n, isNumber := lex.Number(s)
	if want, ok := m.value(s); n != want || isNumber != ok {
		t.Fatalf("Number(%q) = %d, %v, want %d, %v", s, n, isNumber, want, ok)
	}
	l, _, err := lex.Lex(s)
	isOne := err == api.OK && len(l) == 2 && l[0].Text == s
	if got := isOne && l[0].Kind == api.TkWord; got != isWord {
		t.Fatalf("Word(%q) = %v, but Lex returns %v", s, isWord, l)
	}
	if got := isOne && l[0].Kind == api.TkNumber && l[0].N == n; got != isNumber {
		t.Fatalf("Number(%q) = %d, %v, but Lex returns %v", s, n, isNumber, l)
	}
}

// shorts returns all strings with at most most of these bytes.
func shorts(bytes string, most int) []string {
	l := []string{""}
	begin := 0
	for range most {
		end := len(l)
		for ; begin < end; begin++ {
			for i := range len(bytes) {
				l = append(l, l[begin]+bytes[i:i+1])
			}
		}
	}
	return l
}

// randomSource returns a string of at most most pieces, of which few are errors.
func randomSource(r *rand.Rand, most int) string {
	pieces := []string{" ", "\t", "\n", "  \n", ";", "a", "z9", "network", "0", "10", "1099511627776", "7", "abcdefghij", "00", "$", "Z", "\xc3"}
	var b strings.Builder
	for range r.Intn(most + 1) {
		n := len(pieces)
		if r.Intn(4) > 0 {
			n -= 4
		}
		b.WriteString(pieces[r.Intn(n)])
	}
	return b.String()
}

// TestExamples is about P11.1 to P11.3: the examples of the chapter.
func TestExamples(t *testing.T) {
	if l, pos, err := lex.Lex("a1;;007"); len(l) != 0 || pos != 4 || err != api.ErrRange {
		t.Errorf("Lex = %v, %d, %d, want ErrRange at 4", l, pos, err)
	}
	l, pos, err := lex.Lex("x ;12a")
	want := []api.Token{{Kind: api.TkWord, Text: "x"}, {Kind: api.TkSign, Text: ";", Pos: 2}, {Kind: api.TkNumber, Text: "12", N: 12, Pos: 3}, {Kind: api.TkWord, Text: "a", Pos: 5}, {Kind: api.TkEnd, Pos: 6}}
	if !slices.Equal(l, want) || pos != 0 || err != api.OK {
		t.Errorf("Lex = %v, %d, %d, want %v", l, pos, err, want)
	}
	if l, pos, err := lex.Lex("a :"); len(l) != 0 || pos != 2 || err != api.ErrToken {
		t.Errorf("Lex = %v, %d, %d, want ErrToken at 2", l, pos, err)
	}
	l, _, _ = lex.Lex("a;b ;")
	if got := lex.Text(l); got != "a ; b ;" {
		t.Errorf("Text = %q, want a ; b ;", got)
	}
	if !lex.Word("a1") || lex.Word("1a") {
		t.Errorf("Word of a1 and 1a = %v and %v", lex.Word("a1"), lex.Word("1a"))
	}
	if n, ok := lex.Number("12"); n != 12 || !ok {
		t.Errorf("Number of 12 = %d, %v", n, ok)
	}
	if n, ok := lex.Number("012"); n != 0 || ok {
		t.Errorf("Number of 012 = %d, %v", n, ok)
	}
}

// TestEveryByte is about P11.1 and P11.3: what each byte is alone, and before, in and after each kind of token.
func TestEveryByte(t *testing.T) {
	m := newModel()
	kinds := map[api.Errno]int{}
	for i := range 256 {
		c := string([]byte{byte(i)})
		for _, s := range []string{c, c + c, "x" + c + "y", "1" + c + "2", ";" + c + ";", c + "x1", c + "12", "x" + c, "1" + c, "x1 " + c + " ;", "$" + c, "x" + c + "$", "0" + c, c + "0"} {
			m.expectLex(t, s)
			m.expectWhole(t, s)
		}
		_, _, err := lex.Lex(c)
		kinds[err]++
	}
	if want := 26 + 10 + 1 + 3; kinds[api.OK] != want || kinds[api.ErrToken] != 256-want {
		t.Errorf("the bytes have the errors %v, want %d without one", kinds, want)
	}
}

// TestEveryShort is about P11.1, P11.3, P11.5 and P11.6: all short strings.
func TestEveryShort(t *testing.T) {
	m := newModel()
	for _, s := range shorts("az09; \n\tA$", 5) {
		m.expectLex(t, s)
		m.expectWhole(t, s)
	}
	few := shorts("a10; ", 3)
	for _, s := range few {
		for _, u := range few {
			for _, blank := range []string{" ", "\t", "\n"} {
				expectJoined(t, s, blank, u)
			}
		}
	}
}

// TestWords is about P11.1 and P11.3: words of 19 to 21 bytes and longer ones, of letters and digits, and what ends them.
func TestWords(t *testing.T) {
	m := newModel()
	for _, s := range []string{"a", "z", "aa", "a0", "z9a", "A", "aB", "a_", "a-b", "\u00e9", "a\u00e9", "", " ", " a", "a ", "a\n", "a;", "a b", "9a", "a\x00"} {
		m.expectWhole(t, s)
		m.expectLex(t, s)
	}
	for n := 18; n <= 23; n++ {
		for _, s := range []string{strings.Repeat("a", n), "z" + strings.Repeat("9", n-1), strings.Repeat("b", n-1) + "0"} {
			if got, want := lex.Word(s), n <= api.MaxName; got != want {
				t.Errorf("Word(%q) = %v, want %v", s, got, want)
			}
			for _, source := range []string{s, "x ; " + s, s + ";", "1" + s, s + " $", s + "$", "$" + s, s + " 00", "00 " + s} {
				m.expectLex(t, source)
			}
			m.expectWhole(t, s)
		}
	}
	if l, pos, err := lex.Lex("ab " + strings.Repeat("c", 21)); len(l) != 0 || pos != 3 || err != api.ErrName {
		t.Errorf("Lex of a word of 21 bytes = %v, %d, %d, want ErrName at 3", l, pos, err)
	}
	m.expectWhole(t, strings.Repeat("a", 2000))
	m.expectWhole(t, strings.Repeat("a", 1<<20))
}

// TestNumbers is about P11.1 and P11.3: leading zeros, signs, and numbers at the limits of the chapter and of the machine's words.
func TestNumbers(t *testing.T) {
	m := newModel()
	l := []string{"", "0", "00", "01", "1", "9", "10", "010", "-1", "-0", "+0", "+1", "1_0", "0x1", "1e3", "1.0", " 1", "1 ", "1\n", "\u0661", "1a", "1;", "0 0"}
	for _, at := range []int64{1 << 30, 1 << 31, 1 << 32, 1 << 40, 1 << 41, 1 << 53, 1 << 62, 1<<63 - 1} {
		for d := int64(-2); d <= 2; d++ {
			l = append(l, new(big.Int).Add(big.NewInt(at), big.NewInt(d)).String())
		}
	}
	two := new(big.Int).Lsh(big.NewInt(1), 64)
	for d := int64(-2); d <= 5; d++ {
		l = append(l, new(big.Int).Add(two, big.NewInt(d)).String())
		l = append(l, new(big.Int).Add(new(big.Int).Mul(two, two), big.NewInt(d)).String())
	}
	l = append(l, strings.Repeat("9", 13), strings.Repeat("0", 13)+"1", "1"+strings.Repeat("0", 1999), strings.Repeat("0", 2000))
	for _, s := range l {
		m.expectWhole(t, s)
		for _, source := range []string{s, "a " + s, "a;" + s, s + "a", s + ";" + s, s + " $", "$ " + s} {
			m.expectLex(t, source)
		}
	}
	for s, want := range map[string]int{"1099511627775": 1<<40 - 1, "1099511627776": 1 << 40} {
		if n, ok := lex.Number(s); n != want || !ok {
			t.Errorf("Number(%q) = %d, %v, want %d", s, n, ok, want)
		}
	}
	for _, s := range []string{"1099511627777", "18446744073709551616", "18446744073709551621"} {
		if n, ok := lex.Number(s); n != 0 || ok {
			t.Errorf("Number(%q) = %d, %v, want 0, false", s, n, ok)
		}
		if l, pos, err := lex.Lex(" a " + s); len(l) != 0 || pos != 3 || err != api.ErrRange {
			t.Errorf("Lex of a and %s = %v, %d, %d, want ErrRange at 3", s, l, pos, err)
		}
	}
}

// TestFirstError is about P11.1: of several errors the first one from the beginning decides, whatever it is.
func TestFirstError(t *testing.T) {
	m := newModel()
	errors := map[string]api.Errno{"$": api.ErrToken, strings.Repeat("n", 21): api.ErrName, "00": api.ErrRange, strings.Repeat("8", 30): api.ErrRange}
	for a, want := range errors {
		for b := range errors {
			for _, before := range []string{"", "x ", "\n\n12;"} {
				s := before + a + " " + b
				if l, pos, err := lex.Lex(s); len(l) != 0 || pos != len(before) || err != want {
					t.Errorf("Lex(%q) = %v, %d, %d, want the error %d at %d", s, l, pos, err, want, len(before))
				}
				m.expectLex(t, s)
			}
		}
	}
}

// TestSource is about P11.1: strings of 1999 to 2001 bytes, and longer ones, whatever else is wrong with them.
func TestSource(t *testing.T) {
	m := newModel()
	for _, piece := range []string{" ", ";", "a ", "a", "0", "1", "$", "ab 12;", "\n", "\x80"} {
		long := strings.Repeat(piece, 3000)
		for _, n := range []int{1998, 1999, 2000, 2001, 2002, 2100, 3000} {
			m.expectLex(t, long[:n])
			m.expectLex(t, strings.Repeat(";", n-1)+"$")
			l, pos, err := lex.Lex(long[:n])
			if n > 2000 && (len(l) != 0 || pos != 0 || err != api.ErrFull) {
				t.Errorf("Lex of %d bytes %q = %v, %d, %d, want ErrFull at 0", n, piece, l, pos, err)
			}
		}
	}
	if l, pos, err := lex.Lex(strings.Repeat(";", 2000)); len(l) != 2001 || pos != 0 || err != api.OK {
		t.Errorf("2000 signs are %d tokens, with the error %d at %d", len(l), err, pos)
	}
	if l, pos, err := lex.Lex(strings.Repeat(";", 1999) + "00"); len(l) != 0 || pos != 0 || err != api.ErrFull {
		t.Errorf("2001 bytes have %d tokens and the error %d at %d, want ErrFull at 0", len(l), err, pos)
	}
	if l, pos, err := lex.Lex(strings.Repeat("$", 1<<20)); len(l) != 0 || pos != 0 || err != api.ErrFull {
		t.Errorf("a million bytes have %d tokens and the error %d at %d, want ErrFull at 0", len(l), err, pos)
	}
}

// TestEmpty is about P11.1 and P11.2: nothing, and blanks alone, are the end alone.
func TestEmpty(t *testing.T) {
	for _, s := range []string{"", " ", "\t", "\n", " \t\n ", strings.Repeat("\n", 2000)} {
		l, pos, err := lex.Lex(s)
		if !slices.Equal(l, []api.Token{{Kind: api.TkEnd, Pos: len(s)}}) || pos != 0 || err != api.OK {
			t.Errorf("Lex(%q) = %v, %d, %d, want the end alone", s, l, pos, err)
		}
		if got := lex.Text(l); got != "" {
			t.Errorf("Text(%v) = %q, want nothing", l, got)
		}
	}
}

// TestText is about P11.2: any tokens, of any kinds, with any texts, and ends anywhere.
func TestText(t *testing.T) {
	word, sign, end := api.Token{Kind: api.TkWord, Text: "a"}, api.Token{Kind: api.TkSign, Text: ";"}, api.Token{Kind: api.TkEnd}
	empty, odd := api.Token{Kind: api.TkNumber, N: 5, Pos: -1}, api.Token{Kind: -7, Text: " \n;\xff"}
	loud := api.Token{Kind: api.TkEnd, Text: "end", N: 1}
	for _, c := range []struct {
		l    []api.Token
		want string
	}{
		{nil, ""},
		{[]api.Token{end}, ""},
		{[]api.Token{loud, end, loud}, ""},
		{[]api.Token{word}, "a"},
		{[]api.Token{word, word}, "a a"},
		{[]api.Token{end, word, end, loud, sign, end, end, word, end}, "a ; a"},
		{[]api.Token{empty}, ""},
		{[]api.Token{empty, empty}, " "},
		{[]api.Token{empty, word, empty, empty, sign, empty}, " a   ; "},
		{[]api.Token{odd, word, {Kind: api.TkKinds, Text: "k"}, {Kind: 1 << 40, Text: "0"}}, " \n;\xff a k 0"},
	} {
		if got := lex.Text(c.l); got != c.want {
			t.Errorf("Text(%v) = %q, want %q", c.l, got, c.want)
		}
		expectText(t, c.l)
	}
}

// TestRandom is about P11.1, P11.2, P11.5 and P11.6: strings and tokens by chance, against the model.
func TestRandom(t *testing.T) {
	m := newModel()
	r := rand.New(rand.NewSource(1))
	seen := map[api.Errno]int{}
	for range 20000 {
		s, u := randomSource(r, 30), randomSource(r, 12)
		m.expectLex(t, s)
		m.expectWhole(t, u)
		expectJoined(t, s, " \t\n"[r.Intn(3):][:1], u)
		l, _, err := lex.Lex(s)
		seen[err]++
		for range r.Intn(3) {
			other := api.Token{Kind: r.Intn(6) - 1, Text: randomSource(r, 2), N: r.Intn(9), Pos: r.Intn(9)}
			l = slices.Insert(l, r.Intn(len(l)+1), other)
		}
		expectText(t, l)
	}
	for _, err := range []api.Errno{api.OK, api.ErrToken, api.ErrName, api.ErrRange} {
		if seen[err] < 500 {
			t.Errorf("met the error %d only %d times", err, seen[err])
		}
	}
}

// TestLongSources is about P11.5 and P11.6 near the limit: strings whose texts, or which joined, have about 2000 bytes.
func TestLongSources(t *testing.T) {
	m := newModel()
	r := rand.New(rand.NewSource(2))
	within, beyond := 0, 0
	for range 300 {
		s := strings.Repeat(strings.Repeat(";", r.Intn(9))+randomSource(r, 1)+";", 1000)
		s = s[:min(len(s), 985+r.Intn(40))]
		m.expectLex(t, s)
		for _, n := range []int{1998, 1999, 2000} {
			expectJoined(t, s, " ", strings.Repeat("z ", 1000)[:max(0, n-1-len(s))])
		}
		if l, _, err := lex.Lex(s); err == api.OK && len(lex.Text(l)) > 2000 {
			beyond++
		} else if err == api.OK {
			within++
		}
	}
	if within < 50 || beyond < 20 {
		t.Errorf("met %d texts within the limit and %d beyond it", within, beyond)
	}
	for n, again := range map[int]api.Errno{999: api.OK, 1000: api.OK, 1001: api.ErrFull} {
		l, _, _ := lex.Lex(strings.Repeat(";", n))
		if _, _, err := lex.Lex(lex.Text(l)); len(lex.Text(l)) != 2*n-1 || err != again {
			t.Errorf("the text of %d signs has %d bytes and the error %d", n, len(lex.Text(l)), err)
		}
	}
}

// overlap reports whether two strings share bytes in memory.
func overlap(a, b string) bool {
	if a == "" || b == "" {
		return false
	}
	at, to := uintptr(unsafe.Pointer(unsafe.StringData(a))), uintptr(unsafe.Pointer(unsafe.StringData(b)))
	return at < to+uintptr(len(b)) && to < at+uintptr(len(a))
}

// TestMemory is about P11.4: results share no memory with arguments nor with one another, and arguments and what follows them stay as they are.
func TestMemory(t *testing.T) {
	source := "network mail ; size 900 parts 30 ; abc ; abc 12"
	l, _, _ := lex.Lex(source)
	for i, token := range l {
		// All texts of one byte are kept once by Go itself.
		if len(token.Text) == 1 {
			continue
		}
		if overlap(token.Text, source) {
			t.Errorf("%q shares memory with the source", token.Text)
		}
		for _, other := range l[:i] {
			if overlap(token.Text, other.Text) {
				t.Errorf("%q shares memory with %q", token.Text, other.Text)
			}
		}
	}
	alone := l[:1]
	if text := lex.Text(alone); text != "network" || overlap(text, l[0].Text) {
		t.Errorf("Text = %q, which is the token's own", text)
	}
	before := slices.Clone(l)
	lex.Text(alone)
	lex.Text(l)
	if !slices.Equal(l, before) {
		t.Errorf("the tokens became %v", l)
	}
	l[0].Text = "x"
	if again, _, _ := lex.Lex(source); !slices.Equal(again, before) {
		t.Errorf("Lex = %v, want %v", again, before)
	}
}

// TestPure is about P11.4 and R4: calls at the same time do not meet.
func TestPure(t *testing.T) {
	done := make(chan bool)
	for i := range 4 {
		go func() {
			ok := true
			for k := range 200 {
				n, isNumber := lex.Number(strconv.Itoa(i*1000 + k))
				l, _, err := lex.Lex(strings.Repeat("a;", i) + strconv.Itoa(k))
				ok = ok && isNumber && n == i*1000+k && err == api.OK && len(l) == 2*i+2 && l[2*i].N == k
				ok = ok && lex.Text(l) == strings.Repeat("a ; ", i)+strconv.Itoa(k) && lex.Word("a"+strconv.Itoa(k))
			}
			done <- ok
		}()
	}
	for range 4 {
		if !<-done {
			t.Error("a call at the same time returned something else")
		}
	}
}

// TestLarge is about P11.2, P11.3 and R1: many tokens, and long strings that are no words and no numbers.
func TestLarge(t *testing.T) {
	const n = 1 << 20
	l := make([]api.Token, n)
	for i := range l {
		l[i] = api.Token{Kind: i % 4, Text: "ab"}
	}
	if got, want := lex.Text(l), strings.TrimSuffix(strings.Repeat("ab ", n/4*3), " "); got != want {
		t.Errorf("the text has %d bytes, want %d", len(got), len(want))
	}
	for _, s := range []string{strings.Repeat("a", n), strings.Repeat("1", n), strings.Repeat("0", n), strings.Repeat(" ", n)} {
		if number, ok := lex.Number(s); lex.Word(s) || number != 0 || ok {
			t.Errorf("a million of %q is a word or a number", s[:1])
		}
	}
}
