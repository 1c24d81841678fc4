package parse_test

import (
	"regexp"
	"slices"
	"strconv"
	"strings"
	"sync"
	"testing"

	"solder/api"
	"solder/helps"
	"solder/lex"
)

// The chapter once more, told in another way: its rows, and all beginnings that they have at once. A stmt, an expr and a
// unary are one deeper; full is what no token is; expr! isn't there where a reserved word stands.
func rows() string {
	return `
module = {decl} end
decl = ['static' or 'extern'] type name ( ';' or '=' init ';' or '[' len ']' ['=' '{' init {',' init} '}'] ';' or '(' [params] ')' (';' or block) )
type = ('int' or 'double') ['*'] or 'void'
params = 'void' or ` + most("param") + `
param = type name
init = expr
block = '{' {stmt} '}'
stmt = block or 'if' '(' expr ')' stmt ['else' stmt] or 'while' '(' expr ')' stmt or 'return' [expr] ';' or 'break' ';' or 'continue' ';' or type name ['[' len ']'] ['=' expr] ';' or [expr] ';'
expr = oror ['=' expr]
oror = andand {'||' andand}
andand = bits {'&&' bits}
bits = other {'|' other}
other = both {'^' both}
both = same {'&' same}
same = less {('==' or '!=') less}
less = shift {('<' or '<=' or '>' or '>=') shift}
shift = add {('<<' or '>>') add}
add = mul {('+' or '-') mul}
mul = unary {('*' or '/' or '%') unary}
unary = ('-' or '!' or '~' or '*' or '&') unary or '(' type ')' unary or post
post = atom {'[' expr ']'}
atom = num or real or name or name '(' [` + most("expr") + `] ')' or '(' expr! ')'
`
}

// most is a list of as many things as arguments and params may be, with commas between.
func most(what string) string {
	s := "[',' full]"
	for range 7 {
		s = "[',' " + what + " " + s + "]"
	}
	return what + " " + s
}

// edge leads from a node to another one by what its label is: nothing, a sign or word in quotes, a kind of tokens, a row.
type edge struct {
	label string
	to    int
}

// graph is all rows.
type graph struct {
	edges  [][]edge
	starts map[string]int
	ends   map[int]string // the rows that may end at a node
	words  []string       // of a row that is read
}

var readRows = sync.OnceValue(func() *graph {
	g := &graph{starts: map[string]int{}, ends: map[int]string{}}
	pieces := regexp.MustCompile(`'[^']+'|[a-z]+!?|[(){}\[\]]`)
	for line := range strings.Lines(strings.TrimSpace(rows())) {
		row, what, _ := strings.Cut(line, " = ")
		g.words = pieces.FindAllString(what, -1)
		g.starts[row] = g.node()
		g.ends[g.either(g.starts[row])] = row
		if len(g.words) > 0 {
			panic("a row that can't be read: " + line)
		}
	}
	for n := range g.edges {
		g.close(n)
	}
	return g
})

// close gives a node all edges to which those with nothing lead, in their place.
func (g *graph) close(n int) {
	var all []edge
	seen := map[int]bool{n: true}
	for work := []int{n}; len(work) > 0; work = work[1:] {
		if row, ends := g.ends[work[0]]; ends {
			g.ends[n] = row
		}
		for _, e := range g.edges[work[0]] {
			if e.label != "" {
				all = append(all, e)
			} else if !seen[e.to] {
				seen[e.to] = true
				work = append(work, e.to)
			}
		}
	}
	g.edges[n] = all
}

func (g *graph) node() int {
	g.edges = append(g.edges, nil)
	return len(g.edges) - 1
}

func (g *graph) edge(from int, label string, to int) {
	g.edges[from] = append(g.edges[from], edge{label, to})
}

func (g *graph) word() string {
	w := g.words[0]
	g.words = g.words[1:]
	return w
}

// either reads ways with an or between, and answers the node where they meet.
func (g *graph) either(from int) int {
	end := g.node()
	for {
		at := from
		for len(g.words) > 0 && !strings.Contains(" or ) ] } ", " "+g.words[0]+" ") {
			at = g.piece(at)
		}
		g.edge(at, "", end)
		if len(g.words) == 0 || g.words[0] != "or" {
			return end
		}
		g.word()
	}
}

func (g *graph) piece(from int) int {
	switch w := g.word(); w {
	case "(":
		end := g.either(from)
		g.word()
		return end
	case "[":
		end := g.either(from)
		g.edge(from, "", end)
		g.word()
		return end
	case "{":
		first := g.node()
		g.edge(from, "", first)
		g.edge(g.either(first), "", first)
		g.word()
		return first
	default:
		end := g.node()
		g.edge(from, w, end)
		return end
	}
}

// item is how far a row that began at a token has come, and how deep that is.
type item struct {
	node, deep, origin int
}

// chart has, ahead of each token, all that the rows may have come to.
type chart struct {
	*graph
	tokens  []api.Token
	items   [][]item
	tooDeep bool // would something be so at the token that is looked at?
}

// model tells what is wrong in a text, and where.
func model(text string) (int, api.Errno) {
	tokens, at, e := lex.Lex(text)
	if e != api.OK {
		return at, e
	}
	c := chart{graph: readRows(), tokens: tokens}
	next := []item{{c.starts["module"], 0, 0}}
	for n, x := range tokens {
		c.items = append(c.items, nil)
		c.tooDeep = false
		for _, i := range next {
			c.add(i)
		}
		c.all(n)
		if next = c.over(n); len(next) == 0 {
			return x.At, c.why(n)
		}
	}
	return 0, api.OK
}

func (c *chart) add(i item) {
	if last := &c.items[len(c.items)-1]; !slices.Contains(*last, i) {
		*last = append(*last, i)
	}
}

// deeper is how much deeper a row is than what it stands in.
func deeper(row string) int {
	if row == "stmt" || row == "expr" || row == "unary" {
		return 1
	}
	return 0
}

// all adds what follows from what is there at token n.
func (c *chart) all(n int) {
	for k := 0; k < len(c.items[n]); k++ {
		i := c.items[n][k]
		for _, e := range c.edges[i.node] {
			row, guarded := strings.CutSuffix(e.label, "!")
			start, isRow := c.starts[row]
			switch {
			case !isRow || guarded && c.tokens[n].Kind == api.TWord:
			case i.deep+deeper(row) > 40:
				c.tooDeep = true
			default:
				c.add(item{start, i.deep + deeper(row), n})
			}
		}
		if row, is := c.ends[i.node]; is {
			c.ended(row, i)
		}
	}
}

// ended goes on with what a row stood in.
func (c *chart) ended(row string, i item) {
	for _, outer := range c.items[i.origin] {
		for _, e := range c.edges[outer.node] {
			if strings.TrimSuffix(e.label, "!") == row && outer.deep+deeper(row) == i.deep {
				c.add(item{e.to, outer.deep, outer.origin})
			}
		}
	}
}

// over are the items behind token n. An else goes on with the if that began last.
func (c *chart) over(n int) []item {
	var l []item
	for _, i := range c.items[n] {
		for _, e := range c.edges[i.node] {
			if c.fits(e.label, c.tokens[n]) {
				l = append(l, item{e.to, i.deep, i.origin})
			}
		}
	}
	if c.tokens[n].Text == "else" && len(l) > 0 {
		nearest := slices.MaxFunc(l, func(a, b item) int { return a.origin - b.origin })
		return []item{nearest}
	}
	return l
}

func (c *chart) fits(label string, x api.Token) bool {
	switch label {
	case "end":
		return x.Kind == api.TEnd
	case "name":
		return x.Kind == api.TName
	case "num":
		return x.Kind == api.TInt
	case "real":
		return x.Kind == api.TReal
	case "len":
		return x.Kind == api.TInt && isLen(x.Text)
	}
	return label == "'"+x.Text+"'" && x.Text != ""
}

func isLen(s string) bool {
	n, _ := strconv.Atoi(s)
	return 1 <= n && n <= 1000
}

// why is why token n doesn't fit.
func (c *chart) why(n int) api.Errno {
	asked := map[string]bool{}
	for _, i := range c.items[n] {
		for _, e := range c.edges[i.node] {
			asked[e.label] = true
		}
	}
	switch {
	case c.tooDeep:
		return api.ErrDeep
	case asked["len"] && c.tokens[n].Kind == api.TInt:
		return api.ErrRange
	case asked["full"]:
		return api.ErrFull
	}
	return api.ErrSyntax
}

// The model finds what is hand-told.
func TestModel(t *testing.T) {
	for _, c := range []struct {
		s  string
		at int
		e  api.Errno
	}{
		{"", 0, 0}, {"int a;", 0, 0}, {"int a", 5, 11}, {"int main() { return 1 + 2 * 3; }", 0, 0}, {"int a[0];", 6, 1}, {"int a[1.0];", 6, 11},
		{"int f() { if (1) if (2) ; else ; else ; }", 0, 0}, {"int f() { if (1) if (2) ; else ; else ; else ; }", 40, 11},
		{"int a = " + strings.Repeat("-", 38) + "1;", 0, 0}, {"int a = " + strings.Repeat("-", 39) + "1;", 47, 12}, {"int a = " + strings.Repeat("-", 39) + ";", 47, 12},
		{"int a = f(1,2,3,4,5,6,7,8);", 0, 0}, {"int a = f(1,2,3,4,5,6,7,8,);", 26, 5}, {"int a = (if) 1;", 9, 11}, {"int f(void, int a);", 10, 11},
	} {
		if at, e := model(c.s); at != c.at || e != c.e {
			t.Errorf("the model says of %s error %d at %d, want %d at %d", helps.Short(c.s), e, at, c.e, c.at)
		}
	}
}
