package syntax

import (
	"slices"

	"lingua/api"
)

// reader reads the tokens of a declaration, one after the other. With the first error it stops: none of its methods reads anything more, so that it is enough to ask for the error at the end.
type reader struct {
	left []api.Token // what is not read yet, from the token of the error on, if there is one
	err  api.Errno
}

// profile reads a declaration up to its end.
func (r *reader) profile() api.Profile {
	var p api.Profile
	r.expect("network")
	p.Name = r.name()
	r.expect(";", "edit")
	p.Edit = r.choose(abilities, "no", "yes")
	if p.Edit == api.AbYes && r.accept("within") {
		p.Within = r.number(1)
	}
	r.expect(";", "delete")
	p.Delete = r.choose(abilities, "no", "mark", "yes")
	r.expect(";", "react")
	p.React = r.decide()
	r.expect(";", "thread")
	p.Thread = r.choose(threads, "none", "flat", "tree")
	r.expect(";", "quote")
	p.Quote = r.decide()
	r.expect(";", "mention")
	p.Mention = r.decide()
	r.expect(";", "size")
	p.Size = r.number(0)
	r.expect("parts")
	p.Parts = r.number(0)
	r.expect(";")
	if r.accept("files") {
		p.Files = r.number(1)
		r.expect("bytes")
		p.Bytes = r.number(0)
		r.expect("types")
		p.Types = r.types()
		r.expect(";")
	}
	r.rules(&p)
	r.end()
	return p
}

// rules reads the parts of a declaration that follow those about messages and attachments.
func (r *reader) rules(p *api.Profile) {
	r.expect("join")
	p.Join = r.choose(joins, "invite", "link", "role")
	r.expect(";", "history")
	p.History = r.choose(histories, "since", "all")
	r.expect(";", "remove")
	p.Remove = r.choose(removals, "now", "key")
	r.expect(";", "receipts")
	p.Level = r.choose(levels, "none", "sent", "held", "shown", "read")
	p.Batch = r.accept("batch")
	r.expect(";", "rate")
	p.Rate = r.number(0)
	r.expect("down")
	p.Down = r.number(0)
	r.expect("of")
	p.Window = r.number(0)
	r.expect(";")
	if r.accept("keep") {
		p.Keep = r.number(1)
		r.expect(";")
	}
}

// accept reads the next token if it has some text, and reports whether it does.
func (r *reader) accept(text string) bool {
	if r.err != api.OK || r.left[0].Text != text {
		return false
	}
	r.left = r.left[1:]
	return true
}

// expect reads tokens with these texts.
func (r *reader) expect(texts ...string) {
	for _, text := range texts {
		if !r.accept(text) {
			r.fail(api.ErrSyntax)
		}
	}
}

// choose reads one of the words that are permitted, and returns its number: its place in a row of the table of words.
func (r *reader) choose(row int, permitted ...string) int {
	for n, word := range words[row] {
		if slices.Contains(permitted, word) && r.accept(word) {
			return n
		}
	}
	r.fail(api.ErrSyntax)
	return 0
}

// decide reads no or yes, and reports whether it is yes.
func (r *reader) decide() bool { return r.choose(abilities, "no", "yes") == api.AbYes }

// number reads a number that is not less than least.
func (r *reader) number(least int) int {
	if r.sees(api.TkNumber) && (r.left[0].N < least || r.left[0].N > api.MaxStep) {
		r.fail(api.ErrRange)
	}
	return r.take(api.TkNumber).N
}

// name reads any word.
func (r *reader) name() string { return r.take(api.TkWord).Text }

// types reads the names of types, of which there is at least one.
func (r *reader) types() []string {
	l := []string{r.name()}
	for r.sees(api.TkWord) {
		if len(l) == mostTypes {
			r.fail(api.ErrFull)
			return nil
		}
		l = append(l, r.name())
	}
	return l
}

// end expects that nothing follows.
func (r *reader) end() {
	if !r.sees(api.TkEnd) {
		r.fail(api.ErrSyntax)
	}
}

// sees reports whether the next token is of some kind.
func (r *reader) sees(kind int) bool { return r.err == api.OK && r.left[0].Kind == kind }

// take reads the next token, which is to be of some kind.
func (r *reader) take(kind int) api.Token {
	if !r.sees(kind) {
		r.fail(api.ErrSyntax)
		return api.Token{}
	}
	t := r.left[0]
	r.left = r.left[1:]
	return t
}

// fail stops the reader with an error, unless it has stopped before.
func (r *reader) fail(err api.Errno) {
	if r.err == api.OK {
		r.err = err
	}
}
