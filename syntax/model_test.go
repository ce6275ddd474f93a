package syntax_test

import (
	"maps"
	"regexp"
	"slices"
	"strconv"
	"strings"

	"lingua/api"
	"lingua/lex"
)

// grammar is the table of the chapter, each part and the end on a line. NUM and NUM1 are numbers from 0 and from 1 on, NAME and TYPE are any words.
const grammar = `network NAME ;
edit ( no | yes [ within NUM1 ] ) ;
delete ( no | mark | yes ) ;
react ( no | yes ) ;
thread ( none | flat | tree ) ;
quote ( no | yes ) ;
mention ( no | yes ) ;
size NUM parts NUM ;
[ files NUM1 bytes NUM types TYPE { TYPE } ; ]
join ( invite | link | role ) ;
history ( since | all ) ;
remove ( now | key ) ;
receipts ( none | sent | held | shown | read ) [ batch ] ;
rate NUM down NUM of NUM ;
[ keep NUM1 ; ]
END`

// texts is what the texts of declarations are, with one blank between each two tokens.
var texts = regexp.MustCompile(`^network (?P<Name>[a-z][a-z0-9]*) ; ` +
	`edit (?:no|(?P<Edit>yes)(?: within (?P<Within>[0-9]+))?) ; ` +
	`delete (?P<Delete>no|mark|yes) ; ` +
	`react (?P<React>no|yes) ; ` +
	`thread (?P<Thread>none|flat|tree) ; ` +
	`quote (?P<Quote>no|yes) ; ` +
	`mention (?P<Mention>no|yes) ; ` +
	`size (?P<Size>[0-9]+) parts (?P<Parts>[0-9]+) ; ` +
	`(?:files (?P<Files>[0-9]+) bytes (?P<Bytes>[0-9]+) types (?P<Types>[a-z][a-z0-9]*(?: [a-z][a-z0-9]*)*) ; )?` +
	`join (?P<Join>invite|link|role) ; ` +
	`history (?P<History>since|all) ; ` +
	`remove (?P<Remove>now|key) ; ` +
	`receipts (?P<Level>none|sent|held|shown|read)(?P<Batch> batch)? ; ` +
	`rate (?P<Rate>[0-9]+) down (?P<Down>[0-9]+) of (?P<Window>[0-9]+) ;` +
	`(?: keep (?P<Keep>[0-9]+) ;)?$`)

// numbers says which number each word of a field stands for.
func numbers() map[string]map[string]int {
	answers := map[string]int{"no": 0, "mark": 1, "yes": 2}
	return map[string]map[string]int{
		"Edit":    answers,
		"Delete":  answers,
		"Thread":  {"none": 0, "flat": 1, "tree": 2},
		"Join":    {"invite": 0, "link": 1, "role": 2},
		"History": {"since": 0, "all": 1},
		"Remove":  {"now": 0, "key": 1},
		"Level":   {"none": 0, "sent": 1, "held": 2, "shown": 3, "read": 4},
	}
}

// said returns the profile that a text with one blank between each two tokens says, without limits, and whether it says one.
func said(text string) (api.Profile, bool) {
	m := texts.FindStringSubmatch(text)
	if m == nil {
		return api.Profile{}, false
	}
	group := func(name string) string { return m[texts.SubexpIndex(name)] }
	number := func(name string) int { n, _ := strconv.Atoi(group(name)); return n }
	words := numbers()
	word := func(name string) int { return words[name][group(name)] }
	return api.Profile{
		Name: group("Name"), Edit: word("Edit"), Within: number("Within"), Delete: word("Delete"),
		React: group("React") == "yes", Thread: word("Thread"), Quote: group("Quote") == "yes", Mention: group("Mention") == "yes",
		Size: number("Size"), Parts: number("Parts"), Files: number("Files"), Bytes: number("Bytes"), Types: strings.Fields(group("Types")),
		Join: word("Join"), History: word("History"), Remove: word("Remove"), Level: word("Level"), Batch: group("Batch") != "",
		Rate: number("Rate"), Down: number("Down"), Window: number("Window"), Keep: number("Keep"),
	}, true
}

// written returns the text of a profile as the chapter describes it, whether the profile is right or not.
func written(p api.Profile) string {
	words := numbers()
	word := func(name string, n int) string {
		for w, place := range words[name] {
			if place == n {
				return " " + w
			}
		}
		return " ?"
	}
	answer := func(yes bool) string {
		if yes {
			return " yes"
		}
		return " no"
	}
	number := func(n int) string { return " " + strconv.Itoa(n) }
	s := "network " + p.Name + " ;\nedit" + word("Edit", p.Edit)
	if p.Within != 0 {
		s += " within" + number(p.Within)
	}
	s += " ;\ndelete" + word("Delete", p.Delete) + " ;\nreact" + answer(p.React) + " ;\nthread" + word("Thread", p.Thread)
	s += " ;\nquote" + answer(p.Quote) + " ;\nmention" + answer(p.Mention) + " ;\nsize" + number(p.Size) + " parts" + number(p.Parts) + " ;\n"
	if p.Files != 0 {
		s += "files" + number(p.Files) + " bytes" + number(p.Bytes) + " types"
		for _, name := range p.Types {
			s += " " + name
		}
		s += " ;\n"
	}
	s += "join" + word("Join", p.Join) + " ;\nhistory" + word("History", p.History) + " ;\nremove" + word("Remove", p.Remove)
	s += " ;\nreceipts" + word("Level", p.Level)
	if p.Batch {
		s += " batch"
	}
	s += " ;\nrate" + number(p.Rate) + " down" + number(p.Down) + " of" + number(p.Window) + " ;\n"
	if p.Keep != 0 {
		s += "keep" + number(p.Keep) + " ;\n"
	}
	return s
}

// right reports whether all names and numbers of a profile are within their limits, and the profile is what its text says.
func right(p api.Profile) bool {
	if len(p.Name) > 20 || len(p.Types) > 20 {
		return false
	}
	for _, name := range p.Types {
		if len(name) > 20 {
			return false
		}
	}
	for _, n := range []int{p.Within, p.Size, p.Parts, p.Files, p.Bytes, p.Rate, p.Down, p.Window, p.Keep} {
		if n > 1073741824 {
			return false
		}
	}
	q, ok := said(strings.TrimSuffix(strings.ReplaceAll(written(p), "\n", " "), " "))
	return ok && slices.Equal(fields(q), fields(p))
}

// fields returns the fields of a profile as texts, each exactly one way.
func fields(p api.Profile) []string {
	l := []string{strconv.Quote(p.Name)}
	for _, n := range []int{p.Edit, p.Within, p.Delete, p.Thread, p.Size, p.Parts, p.Files, p.Bytes, p.Join, p.History, p.Remove, p.Level, p.Rate, p.Down, p.Window, p.Keep} {
		l = append(l, strconv.Itoa(n))
	}
	for _, is := range []bool{p.React, p.Quote, p.Mention, p.Batch} {
		l = append(l, strconv.FormatBool(is))
	}
	for _, name := range p.Types {
		l = append(l, strconv.Quote(name))
	}
	return l
}

// node is a node of the grammar: a symbol, or nodes one after the other, of which one is chosen, or any number is repeated.
type node struct {
	symbol string
	kind   byte // 0: a symbol, or '(', '[', '{'; '.': one after the other
	below  []*node
}

// theGrammar returns the grammar as a node.
func theGrammar() *node {
	n, _ := sequence(strings.Fields(grammar))
	return n
}

// sequence returns the node with which symbols begin, up to a bracket or a bar that is not in it, and what follows.
func sequence(l []string) (*node, []string) {
	n := &node{kind: '.'}
	for len(l) > 0 {
		switch l[0] {
		case ")", "]", "}", "|":
			return n, l
		case "(", "[", "{":
			group := &node{kind: l[0][0]}
			for l[0] != ")" && l[0] != "]" && l[0] != "}" {
				var one *node
				one, l = sequence(l[1:])
				group.below = append(group.below, one)
			}
			n.below, l = append(n.below, group), l[1:]
		default:
			n.below, l = append(n.below, &node{symbol: l[0]}), l[1:]
		}
	}
	return n, nil
}

// trial is a list of tokens that the grammar is tried on.
type trial struct {
	tokens  []api.Token
	reach   int            // the last token that was looked at: those before it are permitted
	symbols map[int]string // the symbol that permits a token
}

// match returns the places to which a node can lead from one place.
func (t *trial) match(n *node, at int) map[int]bool {
	switch n.kind {
	case 0:
		t.reach = max(t.reach, at)
		if !permits(n.symbol, t.tokens[at]) {
			return nil
		}
		t.symbols[at] = n.symbol
		return map[int]bool{at + 1: true}
	case '.':
		ends := map[int]bool{at: true}
		for _, one := range n.below {
			ends = t.all(one, ends)
		}
		return ends
	case '(':
		ends := map[int]bool{}
		for _, one := range n.below {
			maps.Copy(ends, t.match(one, at))
		}
		return ends
	case '[':
		ends := t.match(n.below[0], at)
		ends[at] = true
		return ends
	}
	ends, last := map[int]bool{at: true}, map[int]bool{at: true}
	for len(last) > 0 {
		last = t.all(n.below[0], last)
		maps.Copy(ends, last)
	}
	return ends
}

// all returns the places to which a node can lead from any of some places.
func (t *trial) all(n *node, from map[int]bool) map[int]bool {
	ends := map[int]bool{}
	for at := range from {
		maps.Copy(ends, t.match(n, at))
	}
	return ends
}

// permits reports whether a symbol of the grammar stands for a token.
func permits(symbol string, token api.Token) bool {
	switch symbol {
	case "NAME", "TYPE":
		return token.Kind == api.TkWord
	case "NUM", "NUM1":
		return token.Kind == api.TkNumber
	case "END":
		return token.Kind == api.TkEnd
	}
	return token.Text == symbol
}

// firstError returns the index of the first token at which there is an error, and the error; or -1 and OK.
func firstError(g *node, tokens []api.Token) (int, api.Errno) {
	t := trial{tokens: tokens, symbols: map[int]string{}}
	ends := t.match(g, 0)
	types := 0
	for i := range tokens {
		symbol := t.symbols[i]
		if symbol == "TYPE" {
			types++
		}
		switch n := tokens[i].N; {
		case len(ends) == 0 && i == t.reach:
			return i, api.ErrSyntax
		case symbol == "NUM" && n > 1073741824, symbol == "NUM1" && (n > 1073741824 || n < 1):
			return i, api.ErrRange
		case types > 20:
			return i, api.ErrFull
		}
	}
	return -1, api.OK
}

// parse returns what Parse is to return.
func parse(g *node, s string) (api.Profile, int, api.Errno) {
	tokens, pos, err := lex.Lex(s)
	if err != api.OK {
		return api.Profile{}, pos, err
	}
	if i, err := firstError(g, tokens); err != api.OK {
		return api.Profile{}, tokens[i].Pos, err
	}
	p, ok := said(lex.Text(tokens))
	if !ok {
		panic("the grammar permits " + s)
	}
	return p, 0, api.OK
}
