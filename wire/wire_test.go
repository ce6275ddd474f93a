package wire_test

import (
	"fmt"
	"math"
	"reflect"
	"slices"
	"strings"
	"testing"

	"lingua/wire"
)

// kind is a kind of values: how one is written, and how one is read.
type kind struct {
	name    string
	samples []any
	write   func(v any) string
	read    func(r *wire.Reader) any
}

var someNumbers = []any{0, 1, 7, 9, 10, 12, 100, 123, 1234567890, math.MaxInt}
var someInts = append([]any{-1, -2, -9, -10, -12, -123, -1234567890, math.MinInt}, someNumbers...)
var someTexts = []any{"", "a", ",", "a,", ",a", "0:,", "1:", "3:abc,", "0[]", "-1;", "é", "\xff\x00", strings.Repeat("0", 10), strings.Repeat(":,", 60)}

func kinds() []kind {
	return []kind{
		{"Num", someNumbers, func(v any) string { return wire.Num(v.(int)) }, func(r *wire.Reader) any { return r.Num() }},
		{"Int", someInts, func(v any) string { return wire.Int(v.(int)) }, func(r *wire.Reader) any { return r.Int() }},
		{"Text", someTexts, func(v any) string { return wire.Text(v.(string)) }, func(r *wire.Reader) any { return r.Text() }},
		{"Nums", listsOf[int](someInts), func(v any) string { return wire.Nums(v.([]int)) }, func(r *wire.Reader) any { return r.Nums() }},
		{"Texts", listsOf[string](someTexts), func(v any) string { return wire.Texts(v.([]string)) }, func(r *wire.Reader) any { return r.Texts() }},
	}
}

// listsOf returns the empty list, the lists of one and of two of some values, and the list of them all.
func listsOf[T any](values []any) []any {
	var all []T
	lists := []any{[]T(nil)}
	for _, v := range values {
		all = append(all, v.(T))
		lists = append(lists, []T{v.(T)})
		for _, w := range values {
			lists = append(lists, []T{v.(T), w.(T)})
		}
	}
	return append(lists, all)
}

// isZero reports whether a value is 0, the empty string or a list without elements.
func isZero(v any) bool { return same(v, reflect.Zero(reflect.TypeOf(v)).Interface()) }

// same reports whether two values are the same; nil and empty lists are.
func same(v, w any) bool { return fmt.Sprintf("%T %q", v, v) == fmt.Sprintf("%T %q", w, w) }

// TestWriting is about P1.1.
func TestWriting(t *testing.T) {
	for _, c := range []struct{ name, got, want string }{
		{"Num(0)", wire.Num(0), "0;"},
		{"Num(300)", wire.Num(300), "300;"},
		{"Num(MaxInt64)", wire.Num(math.MaxInt64), "9223372036854775807;"},
		{"Num(-1)", wire.Num(-1), ""},
		{"Num(MinInt64)", wire.Num(math.MinInt64), ""},
		{"Int(0)", wire.Int(0), "0;"},
		{"Int(7)", wire.Int(7), "7;"},
		{"Int(-7)", wire.Int(-7), "-7;"},
		{"Int(MaxInt64)", wire.Int(math.MaxInt64), "9223372036854775807;"},
		{"Int(MinInt64)", wire.Int(math.MinInt64), "-9223372036854775808;"},
		{"Text of nothing", wire.Text(""), "0:,"},
		{"Text of signs", wire.Text("a,b"), "3:a,b,"},
		{"Text counts bytes", wire.Text("é"), "2:é,"},
		{"Text of any bytes", wire.Text("\x00\xff\n"), "3:\x00\xff\n,"},
		{"Text of ten bytes", wire.Text("0123456789"), "10:0123456789,"},
		{"Nums of nil", wire.Nums(nil), "0[]"},
		{"Nums of nothing", wire.Nums([]int{}), "0[]"},
		{"Nums", wire.Nums([]int{1, -1}), "2[1;-1;]"},
		{"Nums of ten", wire.Nums(make([]int, 10)), "10[0;0;0;0;0;0;0;0;0;0;]"},
		{"Nums of the least int", wire.Nums([]int{math.MinInt64}), "1[-9223372036854775808;]"},
		{"Texts of nil", wire.Texts(nil), "0[]"},
		{"Texts of nothing", wire.Texts([]string{}), "0[]"},
		{"Texts", wire.Texts([]string{"", "x", "]"}), "3[0:,1:x,1:],]"},
	} {
		if c.got != c.want {
			t.Errorf("%s: %q, not %q", c.name, c.got, c.want)
		}
	}
}

// TestReading is about P1.2: values are read where the reader stands, and it moves after them.
func TestReading(t *testing.T) {
	r := wire.Open("12;-12;3:a,b,2[1;-1;]2[0:,1:],]0[]0[]tail")
	step := func(got, want any, left int) {
		t.Helper()
		if !same(got, want) || r.Left() != left || r.Done() {
			t.Errorf("%q and %d left, not %q and %d", got, r.Left(), want, left)
		}
	}
	step(r.Num(), 12, 38)
	step(r.Int(), -12, 34)
	step(r.Text(), "a,b", 28)
	step(r.Nums(), []int{1, -1}, 20)
	step(r.Texts(), []string{"", "]"}, 10)
	step(r.Nums(), []int{}, 7)
	step(r.Texts(), []string{}, 4)
	if got := r.Rest(); got != "tail" {
		t.Errorf("rest: %q", got)
	}
	if !r.Done() || r.Left() != 0 || r.Rest() != "" {
		t.Error("not at the end after Rest")
	}
}

// TestEmptyReader is about P1.2: a reader of nothing is done until something is read from it.
func TestEmptyReader(t *testing.T) {
	for _, k := range kinds() {
		r := wire.Open("")
		if !r.Done() || r.Left() != 0 || r.Rest() != "" || !r.Done() {
			t.Errorf("%s: an empty reader is not done", k.name)
		}
		if !isZero(k.read(r)) || r.Done() {
			t.Errorf("%s: read from nothing", k.name)
		}
	}
}

// TestNoEncoding is about P1.2: what is no encoding is not read, and the reader fails for good.
func TestNoEncoding(t *testing.T) {
	noNumber := []string{";", "-;", "-0;", "00;", "01;", "007;", "-01;", "+1;", "--1;", "1", "1,", "1:", " 1;", "1 ;", "x;", "1x;", "0x1;", "1_0;", "1e3;", "\x001;", "٣;",
		"9223372036854775808;", "-9223372036854775809;", "18446744073709551616;", "123456789012345678901234;", strings.Repeat("9", 5000) + ";", "1:a,", "1[1;]"}
	noText := []string{":", ":,", "1:", "1:a", "1:a;", "1:ab", "1:ab,", "2:a,", "1:,", "-1:a,", "-1:,", "-0:,", "01:a,", "00:,", "+1:a,", "0,", "0;", "0:", "0:;", "9223372036854775807:,", "9223372036854775808:,", "9223372036854775806:a,", "0[]"}
	noNums := []string{"[]", "0[", "0]", "0", "0[;]", "1[]", "1[1;", "1[1;,", "1[1]", "1[1;2;]", "2[1;]", "2[1;2;", "2[1,2]", "1[01;]", "1[-0;]", "1[1:a,]", "-1[]", "-0[]", "00[]", "01[1;]", "+1[1;]", "9223372036854775807[1;]", "9223372036854775808[]", "1;", "0:,"}
	noTexts := []string{"[]", "0[", "0", "0[:,]", "1[]", "1[0:,", "1[0:,,", "1[1:a]", "1[0:,0:,]", "2[0:,]", "1[01:a,]", "1[-1:,]", "1[1;]", "-1[]", "00[]", "01[0:,]", "9223372036854775807[0:,]", "1;", "0:,"}
	bad := map[string][]string{"Num": append([]string{"-1;", "-9223372036854775808;"}, noNumber...), "Int": noNumber, "Text": noText, "Nums": noNums, "Texts": noTexts}
	for _, k := range kinds() {
		for _, s := range bad[k.name] {
			r := wire.Open(s)
			if v := k.read(r); !isZero(v) {
				t.Errorf("%s of %.40q: %.40q", k.name, s, v)
			}
			expectFailed(t, k.name+" of "+s, r)
		}
	}
}

// TestFailedForGood is about P1.2: a reader that has failed reads nothing more, whatever would stand behind.
func TestFailedForGood(t *testing.T) {
	for _, k := range kinds() {
		for _, next := range kinds() {
			r := wire.Open("!" + next.write(next.samples[len(next.samples)-1]))
			if v := k.read(r); !isZero(v) {
				t.Errorf("%s: %q", k.name, v)
			}
			if v := next.read(r); !isZero(v) {
				t.Errorf("%s after a failed %s: %q", next.name, k.name, v)
			}
			expectFailed(t, next.name+" after a failed "+k.name, r)
		}
	}
	r := wire.Open("1;1[x;2;3;")
	if r.Num() != 1 || len(r.Nums()) != 0 || r.Int() != 0 {
		t.Error("read after a list whose element is none")
	}
	expectFailed(t, "a list whose element is none", r)
}

// expectFailed checks that a reader has failed, and stays so.
func expectFailed(t *testing.T, what string, r *wire.Reader) {
	t.Helper()
	for range 2 {
		if r.Done() || r.Left() != 0 || r.Rest() != "" {
			t.Errorf("%.60s: the reader has not failed", what)
		}
		for _, k := range kinds() {
			if v := k.read(r); !isZero(v) {
				t.Errorf("%.60s: then %s reads %q", what, k.name, v)
			}
		}
	}
}

// TestMemory is about P1.3.
func TestMemory(t *testing.T) {
	nums, texts := []int{3, -1, 2, 99}, []string{"b", "", "a", "z"}
	if wire.Nums(nums[:3]) != "3[3;-1;2;]" || wire.Texts(texts[:3]) != "3[1:b,0:,1:a,]" {
		t.Error("lists are written wrongly")
	}
	if !slices.Equal(nums, []int{3, -1, 2, 99}) || !slices.Equal(texts, []string{"b", "", "a", "z"}) {
		t.Error("an argument was modified")
	}
	s := "3[3;-1;2;]3[3;-1;2;]2[1:b,1:a,]2[1:b,1:a,]"
	r, other := wire.Open(s), wire.Open(s)
	n1, n2, t1, t2 := r.Nums(), r.Nums(), r.Texts(), r.Texts()
	n1 = append(n1[:1], 7, 7, 7)
	n1[0] = 8
	t1 = append(t1[:1], "x", "y")
	t1[0] = "x"
	if !slices.Equal(n2, []int{3, -1, 2}) || !slices.Equal(t2, []string{"b", "a"}) {
		t.Error("two results share memory")
	}
	if !slices.Equal(other.Nums(), []int{3, -1, 2}) || other.Left() != len(s)-10 || !r.Done() {
		t.Error("two readers of a string are not independent")
	}
}

// TestReadingInvertsWriting is about P1.4, the first half of its first sentence.
func TestReadingInvertsWriting(t *testing.T) {
	for _, k := range kinds() {
		for _, v := range k.samples {
			s := k.write(v)
			for _, tail := range []string{"", "x", "0", ";", ",", "]", s} {
				r := wire.Open(s + tail)
				if got := k.read(r); !same(got, v) || r.Left() != len(tail) || r.Done() != (tail == "") || r.Rest() != tail {
					t.Errorf("%s of %q and %q: %q", k.name, s, tail, got)
				}
			}
		}
	}
}

// expectExact checks that what is read from s has the bytes that were read as its encoding, and reports whether something was read.
func expectExact(t *testing.T, k kind, s string) bool {
	t.Helper()
	r := wire.Open(s)
	v := k.read(r)
	tail := r.Rest()
	if !r.Done() {
		return false
	}
	if k.write(v)+tail != s {
		t.Errorf("%s reads %q from %q, and leaves %q", k.name, v, s, tail)
	}
	return true
}

// TestEveryShortString is about P1.4: of all strings of up to six signs, those are read that begin with an encoding, and no others.
func TestEveryShortString(t *testing.T) {
	const signs, most = "012-;:,[]", 6
	strs := []string{""}
	for from, size := 0, 1; size <= most; size++ {
		to := len(strs)
		for _, s := range strs[from:to] {
			for _, c := range signs {
				strs = append(strs, s+string(c))
			}
		}
		from = to
	}
	encodings := shortEncodings(strs, most)
	for _, k := range kinds() {
		for _, s := range strs {
			begins := false
			for i := range len(s) + 1 {
				begins = begins || encodings[k.name][s[:i]]
			}
			if expectExact(t, k, s) != begins {
				t.Fatalf("%s of %q: begins with an encoding: %v", k.name, s, begins)
			}
		}
	}
}

// shortEncodings returns the encodings of each kind of up to most bytes, made from the table of the chapter alone.
func shortEncodings(strs []string, most int) map[string]map[string]bool {
	m := map[string]map[string]bool{"Num": {}, "Int": {}, "Text": {}, "Nums": {"0[]": true}, "Texts": {"0[]": true}}
	for n := -9999; n <= 99999; n++ {
		s := fmt.Sprintf("%d;", n)
		m["Int"][s] = true
		if n >= 0 {
			m["Num"][s] = true
		}
	}
	for _, s := range strs {
		if e := fmt.Sprintf("%d:%s,", len(s), s); len(e) <= most {
			m["Text"][e] = true
		}
	}
	for _, of := range [][2]string{{"Int", "Nums"}, {"Text", "Texts"}} {
		for e := range m[of[0]] {
			m[of[1]]["1["+e+"]"] = true
		}
	}
	return m
}

// TestChangedByte is about P1.4: after a change of one byte nothing is read but what has these bytes as its encoding.
func TestChangedByte(t *testing.T) {
	const signs = "0123456789-;:,[]+ a\x00"
	for _, k := range kinds() {
		for _, v := range k.samples {
			s := k.write(v)
			for i := range len(s) {
				expectExact(t, k, s[:i])
				expectExact(t, k, s[:i]+s[i+1:])
				for _, c := range signs {
					expectExact(t, k, s[:i]+string(c)+s[i+1:])
					expectExact(t, k, s[:i]+string(c)+s[i:])
				}
			}
		}
	}
}

// TestNoPrefix is about P1.4, its second sentence.
func TestNoPrefix(t *testing.T) {
	for _, k := range kinds() {
		for i, v := range k.samples {
			for j, w := range k.samples {
				if i != j && strings.HasPrefix(k.write(w), k.write(v)) {
					t.Errorf("%s: %q is a prefix of %q", k.name, k.write(v), k.write(w))
				}
			}
		}
	}
}

// TestConcatenatedAndNested is about P1.5.
func TestConcatenatedAndNested(t *testing.T) {
	var all strings.Builder
	var texts []string
	for _, k := range kinds() {
		for _, v := range k.samples {
			all.WriteString(k.write(v))
			texts = append(texts, k.write(v))
		}
	}
	r := wire.Open(all.String())
	for _, k := range kinds() {
		for _, v := range k.samples {
			if got := k.read(r); !same(got, v) {
				t.Fatalf("%s: %q, not %q", k.name, got, v)
			}
		}
	}
	if !r.Done() {
		t.Error("something is left of the concatenation")
	}
	s := wire.Texts(texts)
	for range 5 {
		s = wire.Texts([]string{wire.Text(s), wire.Nums([]int{len(s)})})
	}
	for range 5 {
		outer := wire.Open(s)
		parts := outer.Texts()
		if len(parts) != 2 || !outer.Done() {
			t.Fatal("the list around is not read")
		}
		inner := wire.Open(parts[0])
		s = inner.Text()
		if !inner.Done() || wire.Nums([]int{len(s)}) != parts[1] {
			t.Fatal("the text inside is not read")
		}
	}
	if r := wire.Open(s); !slices.Equal(r.Texts(), texts) || !r.Done() {
		t.Error("the innermost list is not read")
	}
}
