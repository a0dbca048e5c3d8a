// Package sexpr reads and writes expressions in parentheses.
package sexpr

import (
	"strings"

	"helmsman/api"
)

// Validate checks an expression.
func Validate(l []api.Sexpr) api.Fault {
	if len(l) == 0 || len(l) > api.MaxNodes {
		return api.Fault{Code: api.ErrTooMany, Index: -1}
	}
	subtree := Subtrees()
	start := 0
	depths := make([]int, len(l))
	for i, n := range l {
		if n.Symbol != "" && !isSymbol(n.Symbol) {
			return api.Fault{Code: api.ErrName, Index: i}
		}
		if n.Symbol != "" && len(n.Children) > 0 {
			return api.Fault{Code: api.ErrMalformed, Index: i}
		}
		var ok bool
		if start, ok = subtree(n.Children); !ok {
			return api.Fault{Code: api.ErrMalformed, Index: i}
		}
		depths[i] = 1
		for _, c := range n.Children {
			depths[i] = max(depths[i], depths[c]+1)
		}
		if depths[i] > api.MaxDepth {
			return api.Fault{Code: api.ErrTooLarge, Index: i}
		}
	}
	if start != 0 {
		return api.Fault{Code: api.ErrMalformed, Index: -1}
	}
	return api.Fault{}
}

// Subtrees returns a function for the nodes of a tree in postorder. It is called with the children of each node in turn, and returns the first node of the subtree of this node. It reports false if the children are not the roots of consecutive subtrees that end directly before the node; from then on its results have no meaning.
func Subtrees() func(children []int) (int, bool) {
	var starts []int
	return func(children []int) (int, bool) {
		start, ok := subtreeStart(starts, children)
		starts = append(starts, start)
		return start, ok
	}
}

// subtreeStart returns the first node of the subtree of a node with the given children; starts are those of all nodes before it. It reports false if the children are not the roots of consecutive subtrees that end directly before the node.
func subtreeStart(starts, children []int) (int, bool) {
	// Where a subtree ends is known only from what follows it, so the children are examined from the last one on.
	start := len(starts)
	for k := len(children) - 1; k >= 0; k-- {
		if start == 0 || children[k] != start-1 {
			return 0, false
		}
		start = starts[start-1]
	}
	return start, true
}

// Read reads an expression.
func Read(text string) ([]api.Sexpr, api.Fault) {
	if len(text) > api.MaxText {
		return nil, api.Fault{Code: api.ErrTooMany, Index: -1}
	}
	r := reader{text: text}
	if f := r.expression(0); f != (api.Fault{}) {
		return nil, f
	}
	r.next()
	if r.at < len(text) {
		return nil, r.fault(api.ErrSyntax)
	}
	if len(r.nodes) > api.MaxNodes {
		return nil, api.Fault{Code: api.ErrTooLarge, Index: -1}
	}
	return r.nodes, api.Fault{}
}

// reader reads a text from left to right: at is the offset of the next byte, and nodes are those read so far.
type reader struct {
	text  string
	at    int
	nodes []api.Sexpr
}

func (r *reader) fault(code int) api.Fault { return api.Fault{Code: code, Index: r.at} }

// next passes over space and returns the byte after it, or 0 at the end of the text: no expression contains this byte either.
func (r *reader) next() byte {
	for r.at < len(r.text) && isSpace(r.text[r.at]) {
		r.at++
	}
	if r.at == len(r.text) {
		return 0
	}
	return r.text[r.at]
}

// expression reads an expression that is contained in the given number of lists.
func (r *reader) expression(lists int) api.Fault {
	c := r.next()
	if c != '(' && !isSymbolByte(c) {
		return r.fault(api.ErrSyntax)
	}
	if lists == api.MaxDepth {
		return r.fault(api.ErrTooLarge)
	}
	if c == '(' {
		return r.list(lists)
	}
	return r.symbol()
}

// list reads a list that is contained in the given number of lists.
func (r *reader) list(lists int) api.Fault {
	r.at++
	var children []int
	for r.next() != ')' {
		if f := r.expression(lists + 1); f != (api.Fault{}) {
			return f
		}
		children = append(children, len(r.nodes)-1)
	}
	r.at++
	r.nodes = append(r.nodes, api.Sexpr{Children: children})
	return api.Fault{}
}

func (r *reader) symbol() api.Fault {
	length := symbolLength(r.text[r.at:])
	if length > api.MaxName {
		return r.fault(api.ErrSyntax)
	}
	// A result may not keep the memory of the text.
	symbol := strings.Clone(r.text[r.at : r.at+length])
	r.nodes = append(r.nodes, api.Sexpr{Symbol: symbol})
	r.at += length
	return api.Fault{}
}

// Print returns the text of an expression.
func Print(l []api.Sexpr) (string, api.Fault) {
	if f := Validate(l); f != (api.Fault{}) {
		return "", f
	}
	var text strings.Builder
	var write func(n api.Sexpr)
	write = func(n api.Sexpr) {
		if n.Symbol != "" {
			text.WriteString(n.Symbol)
			return
		}
		text.WriteByte('(')
		for k, c := range n.Children {
			if k > 0 {
				text.WriteByte(' ')
			}
			write(l[c])
		}
		text.WriteByte(')')
	}
	write(l[len(l)-1])
	return text.String(), api.Fault{}
}

// isSymbol reports whether s is a symbol.
func isSymbol(s string) bool {
	return s != "" && len(s) <= api.MaxName && symbolLength(s) == len(s)
}

// symbolLength returns the number of the symbol bytes that s begins with.
func symbolLength(s string) int {
	n := 0
	for n < len(s) && isSymbolByte(s[n]) {
		n++
	}
	return n
}

func isSymbolByte(c byte) bool {
	switch {
	case 'a' <= c && c <= 'z', 'A' <= c && c <= 'Z', '0' <= c && c <= '9':
		return true
	}
	return strings.IndexByte("-_?:=<>+*/.", c) >= 0
}

func isSpace(c byte) bool { return c == ' ' || c == '\t' || c == '\n' }
