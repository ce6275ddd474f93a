package profile_test

import (
	"reflect"
	"slices"

	"lingua/api"
	"lingua/syntax"
)

// The names of the fields that the chapter calls abilities, those of which one is greater than another, and the names of the others, which it calls rules.
var (
	graded    = []string{"Edit", "Delete", "React", "Thread", "Quote", "Mention", "Size", "Parts", "Files", "Bytes", "Level"}
	abilities = append([]string{"Within", "Types"}, graded...)
	rules     = []string{"Name", "Join", "History", "Remove", "Batch", "Rate", "Down", "Window", "Keep"}
)

// grade returns a field of a profile as a number, 0 for false and 1 for true.
func grade(p api.Profile, name string) int {
	v := reflect.ValueOf(p).FieldByName(name)
	if v.Kind() == reflect.Bool {
		if v.Bool() {
			return 1
		}
		return 0
	}
	return int(v.Int())
}

// setGrade sets a field of a profile to a number.
func setGrade(p *api.Profile, name string, n int) {
	v := reflect.ValueOf(p).Elem().FieldByName(name)
	if v.Kind() == reflect.Bool {
		v.SetBool(n == 1)
		return
	}
	v.SetInt(int64(n))
}

// same reports whether two profiles have the same fields.
func same(p, q api.Profile) bool {
	if !slices.Equal(p.Types, q.Types) {
		return false
	}
	p.Types, q.Types = nil, nil
	return reflect.DeepEqual(p, q)
}

// sameAbilities reports whether two profiles have the same abilities, in any order of types.
func sameAbilities(p, q api.Profile) bool {
	a, b := slices.Sorted(slices.Values(p.Types)), slices.Sorted(slices.Values(q.Types))
	for _, name := range graded {
		if grade(p, name) != grade(q, name) {
			return false
		}
	}
	return p.Within == q.Within && slices.Equal(a, b)
}

// sameRules reports whether two profiles have the same rules.
func sameRules(p, q api.Profile) bool {
	for _, name := range rules {
		if reflect.ValueOf(p).FieldByName(name).Interface() != reflect.ValueOf(q).FieldByName(name).Interface() {
			return false
		}
	}
	return true
}

// check returns what Check is to return.
func check(p api.Profile) api.Errno {
	if !syntax.Right(p) {
		return api.ErrArg
	}
	zero, nonzero := false, false
	for _, n := range []int{p.Files, p.Bytes, len(p.Types)} {
		zero, nonzero = zero || n == 0, nonzero || n != 0
	}
	if p.Size < 40 || p.Size > 4000 || p.Parts < 1 || p.Parts > 20 || p.Files > 4 || p.Bytes > 65536 || p.Rate < 1 || p.Down != 0 && p.Down >= p.Window || zero && nonzero {
		return api.ErrRange
	}
	for i, name := range p.Types {
		if slices.Contains(p.Types[:i], name) {
			return api.ErrTwice
		}
	}
	return api.OK
}

// atMost reports what AtMost is to report.
func atMost(p, q api.Profile) bool {
	for _, name := range graded {
		if grade(p, name) > grade(q, name) {
			return false
		}
	}
	for _, name := range p.Types {
		if !slices.Contains(q.Types, name) {
			return false
		}
	}
	return p.Edit == 0 || q.Within == 0 || (p.Within != 0 && p.Within <= q.Within)
}

// meet returns what Meet is to return.
func meet(p, q api.Profile) api.Profile {
	r := p
	for _, name := range graded {
		setGrade(&r, name, min(grade(p, name), grade(q, name)))
	}
	r.Types = nil
	for _, name := range p.Types {
		if slices.Contains(q.Types, name) {
			r.Types = append(r.Types, name)
		}
	}
	if len(r.Types) == 0 {
		r.Files, r.Bytes = 0, 0
	}
	if r.Files == 0 || r.Bytes == 0 {
		r.Files, r.Bytes, r.Types = 0, 0, nil
	}
	if r.Edit == 0 {
		r.Within = 0
	} else if p.Within == 0 {
		r.Within = q.Within
	} else if q.Within == 0 {
		r.Within = p.Within
	} else {
		r.Within = min(p.Within, q.Within)
	}
	return r
}

// join returns what Join is to return.
func join(p, q api.Profile) api.Profile {
	r := p
	for _, name := range graded {
		setGrade(&r, name, max(grade(p, name), grade(q, name)))
	}
	r.Types = slices.Clone(p.Types)
	for _, name := range q.Types {
		if !slices.Contains(p.Types, name) {
			r.Types = append(r.Types, name)
		}
	}
	var steps []int // of those that can edit
	for _, one := range []api.Profile{p, q} {
		if one.Edit == 2 {
			steps = append(steps, one.Within)
		}
	}
	r.Within = 0
	if len(steps) > 0 && !slices.Contains(steps, 0) {
		r.Within = slices.Max(steps)
	}
	return r
}
