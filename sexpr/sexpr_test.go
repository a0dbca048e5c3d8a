package sexpr_test

import (
	"reflect"
	"slices"
	"strings"
	"testing"

	"helmsman/api"
	"helmsman/sexpr"
)

// symbolBytes are all bytes that symbols consist of.
const symbolBytes = "abcdefghijklmnopqrstuvwxyzABCDEFGHIJKLMNOPQRSTUVWXYZ0123456789-_?:=<>+*/."

func fault(code, index int) api.Fault { return api.Fault{Code: code, Index: index} }

func sym(s string) api.Sexpr { return api.Sexpr{Symbol: s} }

func list(children ...int) api.Sexpr { return api.Sexpr{Children: children} }

// nested returns lists that contain each other, the innermost one first, around the given nodes.
func nested(lists int, inside ...api.Sexpr) []api.Sexpr {
	l := slices.Clone(inside)
	for range lists {
		l = append(l, list(len(l)-1))
	}
	return l
}

// flat returns a list of n-1 symbols: n nodes.
func flat(n int) []api.Sexpr {
	var l []api.Sexpr
	var children []int
	for i := range n - 1 {
		l = append(l, sym("a"))
		children = append(children, i)
	}
	return append(l, list(children...))
}

func flatText(n int) string { return "(" + strings.TrimSpace(strings.Repeat("a ", n-1)) + ")" }

func parens(n int, inside string) string {
	return strings.Repeat("(", n) + inside + strings.Repeat(")", n)
}

// same compares expressions; nil and empty lists of children are the same.
func same(a, b []api.Sexpr) bool {
	return slices.EqualFunc(a, b, func(x, y api.Sexpr) bool {
		return x.Symbol == y.Symbol && slices.Equal(x.Children, y.Children)
	})
}

// copyOf returns a copy that shares no memory, with spare capacity that holds the given number.
func copyOf(l []api.Sexpr, spare int) []api.Sexpr {
	c := make([]api.Sexpr, len(l)+1)
	for i, n := range l {
		k := append(slices.Clone(n.Children), spare)
		c[i] = api.Sexpr{Symbol: n.Symbol, Children: k[:len(k)-1]}
	}
	c[len(l)] = sym("spare")
	return c[:len(l)]
}

var validateCases = []struct {
	name string
	l    []api.Sexpr
	want api.Fault
}{
	{"symbol", []api.Sexpr{sym("a")}, fault(0, 0)},
	{"empty list", []api.Sexpr{list()}, fault(0, 0)},
	{"empty list with empty children", []api.Sexpr{{Children: []int{}}}, fault(0, 0)},
	{"symbol with empty children", []api.Sexpr{{Symbol: "a", Children: []int{}}}, fault(0, 0)},
	{"list of symbols", []api.Sexpr{sym("a"), sym("b"), list(0, 1)}, fault(0, 0)},
	{"lists in a list", []api.Sexpr{sym("a"), list(0), sym("b"), list(), list(2, 3), list(1, 4)}, fault(0, 0)},
	{"longest symbol", []api.Sexpr{sym("abcdefghijkl")}, fault(0, 0)},
	{"as many nodes as permitted", flat(api.MaxNodes), fault(0, 0)},
	{"as deep as permitted", nested(api.MaxDepth-1, sym("a")), fault(0, 0)},
	{"as many lists as permitted", nested(api.MaxDepth-1, list()), fault(0, 0)},

	{"nil", nil, fault(api.ErrTooMany, -1)},
	{"no nodes", []api.Sexpr{}, fault(api.ErrTooMany, -1)},
	{"too many nodes", flat(api.MaxNodes + 1), fault(api.ErrTooMany, -1)},
	{"too many nodes before a name", append([]api.Sexpr{sym("!")}, flat(api.MaxNodes)...), fault(api.ErrTooMany, -1)},

	{"symbol too long", []api.Sexpr{sym("abcdefghijklm")}, fault(api.ErrName, 0)},
	{"space in a symbol", []api.Sexpr{sym("a"), sym("a b"), list(0, 1)}, fault(api.ErrName, 1)},
	{"wrong last byte", []api.Sexpr{sym("a\x00")}, fault(api.ErrName, 0)},
	{"not ASCII", []api.Sexpr{sym("\u00e4")}, fault(api.ErrName, 0)},
	{"not UTF-8", []api.Sexpr{sym("a\xff")}, fault(api.ErrName, 0)},
	{"name before children", []api.Sexpr{{Symbol: "(", Children: []int{7}}}, fault(api.ErrName, 0)},
	{"first invalid node", []api.Sexpr{sym("a"), list(-1), sym("!"), list(7)}, fault(api.ErrMalformed, 1)},

	{"symbol with a child", []api.Sexpr{sym("a"), {Symbol: "b", Children: []int{0}}}, fault(api.ErrMalformed, 1)},
	{"negative child", []api.Sexpr{sym("a"), list(-1)}, fault(api.ErrMalformed, 1)},
	{"negative child of the first node", []api.Sexpr{list(-1)}, fault(api.ErrMalformed, 0)},
	{"negative child before a child", []api.Sexpr{sym("a"), list(-1, 0)}, fault(api.ErrMalformed, 1)},
	{"least child", []api.Sexpr{sym("a"), list(-1 << 63)}, fault(api.ErrMalformed, 1)},
	{"greatest child", []api.Sexpr{sym("a"), list(1<<63 - 1)}, fault(api.ErrMalformed, 1)},
	{"child of itself", []api.Sexpr{sym("a"), list(0, 1)}, fault(api.ErrMalformed, 1)},
	{"later child", []api.Sexpr{list(1), list()}, fault(api.ErrMalformed, 0)},
	{"repeated child", []api.Sexpr{sym("a"), list(0, 0)}, fault(api.ErrMalformed, 1)},
	{"children out of order", []api.Sexpr{sym("a"), sym("b"), list(1, 0)}, fault(api.ErrMalformed, 2)},
	{"gap between children", []api.Sexpr{sym("a"), sym("b"), sym("c"), list(0, 2)}, fault(api.ErrMalformed, 3)},
	{"gap after the last child", []api.Sexpr{sym("a"), sym("b"), list(0)}, fault(api.ErrMalformed, 2)},
	{"child that is not a root", []api.Sexpr{sym("a"), list(0), list(0, 1)}, fault(api.ErrMalformed, 2)},
	{"child of two lists", []api.Sexpr{sym("a"), list(0), list(0)}, fault(api.ErrMalformed, 2)},

	{"too deep", nested(api.MaxDepth, sym("a")), fault(api.ErrTooLarge, api.MaxDepth)},
	{"too many lists", nested(api.MaxDepth, list()), fault(api.ErrTooLarge, api.MaxDepth)},
	{"first node that is too deep", nested(api.MaxDepth+2, sym("a")), fault(api.ErrTooLarge, api.MaxDepth)},
	{"deep first child", append(nested(api.MaxDepth-1, list()), sym("a"), list(api.MaxDepth-1, api.MaxDepth)), fault(api.ErrTooLarge, api.MaxDepth+1)},
	{"too deep, then a name", append(nested(api.MaxDepth, list()), sym("!")), fault(api.ErrTooLarge, api.MaxDepth)},

	{"two roots", []api.Sexpr{sym("a"), sym("b")}, fault(api.ErrMalformed, -1)},
	{"node before the last subtree", []api.Sexpr{sym("a"), sym("b"), list(1)}, fault(api.ErrMalformed, -1)},
	{"empty list at the end", []api.Sexpr{sym("a"), list()}, fault(api.ErrMalformed, -1)},
	{"two roots, then a name", []api.Sexpr{sym("a"), sym("b"), sym("!")}, fault(api.ErrName, 2)},
}

// TestValidate covers R1.1.
func TestValidate(t *testing.T) {
	for _, c := range validateCases {
		if got := sexpr.Validate(c.l); got != c.want {
			t.Errorf("%s: got %v, want %v", c.name, got, c.want)
		}
	}
}

// TestSubtrees covers the first nodes of subtrees, and that whatever follows a wrong node does not panic.
func TestSubtrees(t *testing.T) {
	subtree := sexpr.Subtrees()
	for i, n := range []struct {
		children []int
		want     int
	}{{nil, 0}, {[]int{0}, 0}, {[]int{}, 2}, {nil, 3}, {[]int{2, 3}, 2}, {[]int{4}, 2}, {[]int{1, 5}, 0}, {nil, 7}} {
		if got, ok := subtree(n.children); got != n.want || !ok {
			t.Errorf("node %d: got %d, %v, want %d", i, got, ok, n.want)
		}
	}
	for _, wrong := range [][]int{{0}, {7, 7}, {8}, {-1}, {1 << 62}, {5, 6, 7}} {
		other := sexpr.Subtrees()
		other(nil)
		if first, ok := other(wrong); ok != (wrong[0] == 0) || first != 0 {
			t.Errorf("%v: got %d, %v", wrong, first, ok)
		}
		for i := range 9 {
			other([]int{i})
			other([]int{i, i + 1})
		}
	}
}

// TestSymbolBytes covers the bytes of symbols for all three functions.
func TestSymbolBytes(t *testing.T) {
	for b := range 256 {
		s := string([]byte{byte(b)})
		known := strings.Contains(symbolBytes, s)
		for _, symbol := range []string{s, "a" + s, s + "a"} {
			l := []api.Sexpr{sym(symbol)}
			f := sexpr.Validate(l)
			text, g := sexpr.Print(l)
			if known && (f != fault(0, 0) || g != fault(0, 0) || text != symbol) {
				t.Errorf("%q: got %v, %q and %v", symbol, f, text, g)
			}
			if !known && (f != fault(api.ErrName, 0) || g != f || text != "") {
				t.Errorf("%q: got %v, %q and %v", symbol, f, text, g)
			}
		}
		got, f := sexpr.Read(s)
		if known && (f != fault(0, 0) || !same(got, []api.Sexpr{sym(s)})) {
			t.Errorf("Read(%q) = %v, %v", s, got, f)
		}
		if !known && f.Code != api.ErrSyntax {
			t.Errorf("Read(%q) = %v, %v", s, got, f)
		}
	}
}

var readCases = []struct {
	text string
	want []api.Sexpr
}{
	{"a", []api.Sexpr{sym("a")}},
	{"()", []api.Sexpr{list()}},
	{" \t\n( \t\n) \t\n", []api.Sexpr{list()}},
	{"(a b)", []api.Sexpr{sym("a"), sym("b"), list(0, 1)}},
	{"(a(b)c)", []api.Sexpr{sym("a"), sym("b"), list(1), sym("c"), list(0, 2, 3)}},
	{"((a)()((b c)))", []api.Sexpr{sym("a"), list(0), list(), sym("b"), sym("c"), list(3, 4), list(5), list(1, 2, 6)}},
	{"-_?:=<>+*/.", []api.Sexpr{sym("-_?:=<>+*/.")}},
	{"(?x:1 a\tb\nc)", []api.Sexpr{sym("?x:1"), sym("a"), sym("b"), sym("c"), list(0, 1, 2, 3)}},
	{"abcdefghijkl", []api.Sexpr{sym("abcdefghijkl")}},
	{"(abcdefghijkl abcdefghijkl)", []api.Sexpr{sym("abcdefghijkl"), sym("abcdefghijkl"), list(0, 1)}},
	{strings.Repeat(" ", api.MaxText-1) + "a", []api.Sexpr{sym("a")}},
	{flatText(api.MaxNodes), flat(api.MaxNodes)},
	{parens(api.MaxDepth, ""), nested(api.MaxDepth-1, list())},
	{parens(api.MaxDepth-1, "a"), nested(api.MaxDepth-1, sym("a"))},
}

// TestRead covers R1.2 for texts of expressions.
func TestRead(t *testing.T) {
	for _, c := range readCases {
		got, f := sexpr.Read(c.text)
		if f != fault(0, 0) || !same(got, c.want) {
			t.Errorf("Read(%q) = %v, %v, want %v", c.text, got, f, c.want)
		}
		if f := sexpr.Validate(got); f != fault(0, 0) {
			t.Errorf("Read(%q) is not valid: %v", c.text, f)
		}
	}
}

var readFaults = []struct {
	text string
	want api.Fault
}{
	{strings.Repeat(" ", api.MaxText) + "a", fault(api.ErrTooMany, -1)},
	{strings.Repeat("!", api.MaxText+1), fault(api.ErrTooMany, -1)},

	{"", fault(api.ErrSyntax, 0)},
	{" ", fault(api.ErrSyntax, 1)},
	{" \t\n", fault(api.ErrSyntax, 3)},
	{strings.Repeat("\n", api.MaxText), fault(api.ErrSyntax, api.MaxText)},
	{"(", fault(api.ErrSyntax, 1)},
	{"(a", fault(api.ErrSyntax, 2)},
	{"(a (b) \n", fault(api.ErrSyntax, 8)},
	{"(()", fault(api.ErrSyntax, 3)},
	{")", fault(api.ErrSyntax, 0)},
	{" )", fault(api.ErrSyntax, 1)},
	{"())", fault(api.ErrSyntax, 2)},
	{"() )", fault(api.ErrSyntax, 3)},
	{"a b", fault(api.ErrSyntax, 2)},
	{"a(", fault(api.ErrSyntax, 1)},
	{"()()", fault(api.ErrSyntax, 2)},
	{"(a)\n\nb", fault(api.ErrSyntax, 5)},
	{"!", fault(api.ErrSyntax, 0)},
	{"a!", fault(api.ErrSyntax, 1)},
	{"(a\t!b)", fault(api.ErrSyntax, 3)},
	{"\r()", fault(api.ErrSyntax, 0)},
	{"(a\v)", fault(api.ErrSyntax, 2)},
	{"a\x00", fault(api.ErrSyntax, 1)},
	{"\x00", fault(api.ErrSyntax, 0)},
	{"(a \u00e4)", fault(api.ErrSyntax, 3)},
	{"(a\u00a0b)", fault(api.ErrSyntax, 2)},
	{"(\xff)", fault(api.ErrSyntax, 1)},
	{"[a]", fault(api.ErrSyntax, 0)},

	{parens(api.MaxDepth+1, ""), fault(api.ErrTooLarge, api.MaxDepth)},
	{parens(api.MaxDepth, "a"), fault(api.ErrTooLarge, api.MaxDepth)},
	{parens(api.MaxDepth, " \n a"), fault(api.ErrTooLarge, api.MaxDepth+3)},
	{parens(api.MaxDepth, "abcdefghijklm"), fault(api.ErrTooLarge, api.MaxDepth)},
	{parens(api.MaxDepth, "!"), fault(api.ErrSyntax, api.MaxDepth)},
	{strings.Repeat("(", api.MaxDepth), fault(api.ErrSyntax, api.MaxDepth)},
	{parens(api.MaxDepth-1, "() ()a!") + ")", fault(api.ErrSyntax, api.MaxDepth+5)},
	{parens(api.MaxDepth-1, "()(a)"), fault(api.ErrTooLarge, api.MaxDepth+2)},
	{strings.Repeat("(", api.MaxText), fault(api.ErrTooLarge, api.MaxDepth)},

	{"abcdefghijklm", fault(api.ErrSyntax, 0)},
	{" (a abcdefghijklm)", fault(api.ErrSyntax, 4)},
	{"(abcdefghijklm!)", fault(api.ErrSyntax, 1)},
	{"(abcdefghijklmnopqrstuvwxyz", fault(api.ErrSyntax, 1)},
	{"a abcdefghijklm", fault(api.ErrSyntax, 2)},
	{parens(api.MaxDepth-1, "abcdefghijklm"), fault(api.ErrSyntax, api.MaxDepth-1)},

	{flatText(api.MaxNodes + 1), fault(api.ErrTooLarge, -1)},
	{"(" + strings.Repeat("()", api.MaxNodes) + ")", fault(api.ErrTooLarge, -1)},
	{flatText(api.MaxNodes+1) + " b", fault(api.ErrSyntax, 2*api.MaxNodes+2)},
	{"(" + strings.Repeat("()", api.MaxNodes), fault(api.ErrSyntax, 2*api.MaxNodes+1)},
}

// TestReadFaults covers the errors of R1.2.
func TestReadFaults(t *testing.T) {
	for _, c := range readFaults {
		got, f := sexpr.Read(c.text)
		if f != c.want || got != nil {
			t.Errorf("Read(%q) = %v, %v, want %v", c.text, got, f, c.want)
		}
	}
}

var printCases = []struct {
	l    []api.Sexpr
	want string
}{
	{[]api.Sexpr{sym("a")}, "a"},
	{[]api.Sexpr{list()}, "()"},
	{[]api.Sexpr{list(), list(0)}, "(())"},
	{[]api.Sexpr{sym("a"), sym("b"), list(0, 1)}, "(a b)"},
	{[]api.Sexpr{sym("a"), sym("b"), list(1), sym("c"), list(0, 2, 3)}, "(a (b) c)"},
	{[]api.Sexpr{list(), list(), sym("a"), list(2), list(0, 1, 3)}, "(() () (a))"},
	{[]api.Sexpr{sym("-_?:=<>+*/."), sym("Az09"), list(0, 1)}, "(-_?:=<>+*/. Az09)"},
	{nested(api.MaxDepth-1, sym("a")), parens(api.MaxDepth-1, "a")},
	{flat(api.MaxNodes), flatText(api.MaxNodes)},
}

// TestPrint covers R1.3.
func TestPrint(t *testing.T) {
	for _, c := range printCases {
		if got, f := sexpr.Print(c.l); got != c.want || f != fault(0, 0) {
			t.Errorf("Print(%v) = %q, %v, want %q", c.l, got, f, c.want)
		}
	}
}

// TestPrintFaults covers the errors of R1.3: those of Validate.
func TestPrintFaults(t *testing.T) {
	for _, c := range validateCases {
		got, f := sexpr.Print(c.l)
		if f != c.want || (f != fault(0, 0)) != (got == "") {
			t.Errorf("%s: got %q, %v, want %v", c.name, got, f, c.want)
		}
	}
}

// TestPrintMayBeLong covers expressions whose text is longer than Read permits: Print has no such limit.
func TestPrintMayBeLong(t *testing.T) {
	l := flat(api.MaxNodes)
	for i := range len(l) - 1 {
		l[i] = sym("abcdefghijkl")
	}
	want := strings.Replace(flatText(api.MaxNodes), "a", "abcdefghijkl", api.MaxNodes)
	if got, f := sexpr.Print(l); got != want || f != fault(0, 0) {
		t.Errorf("got %d bytes and %v, want %d bytes", len(got), f, len(want))
	}
}

// words calls f with each string of at most n bytes of the alphabet.
func words(alphabet string, n int, f func(string)) {
	f("")
	if n == 0 {
		return
	}
	for i := range len(alphabet) {
		words(alphabet, n-1, func(rest string) { f(alphabet[i:i+1] + rest) })
	}
}

// syntaxFault returns what Read reports for a short text of the bytes ( ) a ! and space: the offset of the first byte with which no text of an expression continues.
func syntaxFault(text string) api.Fault {
	lists, ended := 0, false
	for i := range len(text) {
		switch c := text[i]; {
		case c == ' ':
			continue
		case c == 'a' && i > 0 && text[i-1] == 'a':
			continue
		case c == '!' || ended || c == ')' && lists == 0:
			return fault(api.ErrSyntax, i)
		case c == '(':
			lists++
		case c == ')':
			lists--
		}
		ended = lists == 0
	}
	if !ended {
		return fault(api.ErrSyntax, len(text))
	}
	return fault(0, 0)
}

// TestShortTexts reads all short texts and prints what it has read.
func TestShortTexts(t *testing.T) {
	words("()a !", 7, func(text string) {
		l, f := sexpr.Read(text)
		if want := syntaxFault(text); f != want {
			t.Fatalf("Read(%q) = %v, %v, want %v", text, l, f, want)
		}
		if f != fault(0, 0) {
			if l != nil {
				t.Fatalf("Read(%q) = %v, %v", text, l, f)
			}
			return
		}
		printed, g := sexpr.Print(l)
		again, h := sexpr.Read(printed)
		if g != fault(0, 0) || h != fault(0, 0) || !same(again, l) {
			t.Fatalf("Read(%q) = %v, printed as %q, read as %v", text, l, printed, again)
		}
		if strings.ReplaceAll(printed, " ", "") != strings.ReplaceAll(text, " ", "") {
			t.Fatalf("Read(%q) = %v, printed as %q", text, l, printed)
		}
	})
}

// sequences calls f with each list of at most n numbers from low to high.
func sequences(low, high, n int, f func([]int)) {
	f(nil)
	if n == 0 {
		return
	}
	for i := low; i <= high; i++ {
		sequences(low, high, n-1, func(rest []int) { f(append([]int{i}, rest...)) })
	}
}

// TestSmallExpressions compares Validate, for all small lists of nodes, with the expressions that Read returns.
func TestSmallExpressions(t *testing.T) {
	const nodes = 4
	readable := map[string]bool{}
	words("()a ", 2*nodes, func(text string) {
		if l, f := sexpr.Read(text); f == fault(0, 0) && len(l) <= nodes && !strings.Contains(text, "aa") {
			readable[key(l)] = true
		}
	})
	var choices []api.Sexpr
	sequences(-1, nodes-1, 3, func(children []int) {
		if len(children) == 0 || children[0] <= 0 {
			choices = append(choices, list(children...))
		}
	})
	choices = append(choices, sym("a"), list(1), list(2), list(1, 2))
	valid := 0
	var grow func(l []api.Sexpr)
	grow = func(l []api.Sexpr) {
		f := sexpr.Validate(l)
		if (f == fault(0, 0)) != readable[key(l)] {
			t.Fatalf("Validate(%v) = %v", l, f)
		}
		if f == fault(0, 0) {
			valid++
		}
		if len(l) == nodes || f != fault(0, 0) && f.Index >= 0 {
			return
		}
		for _, c := range choices {
			grow(append(slices.Clone(l), c))
		}
	}
	grow(nil)
	if valid != len(readable) {
		t.Errorf("%d expressions are valid, %d can be read", valid, len(readable))
	}
}

// key returns a string that differs for different expressions.
func key(l []api.Sexpr) string {
	var b strings.Builder
	for _, n := range l {
		b.WriteString(n.Symbol + "[")
		for _, c := range n.Children {
			b.WriteString(string(rune('b' + c)))
		}
		b.WriteString("]")
	}
	return b.String()
}

// TestArgumentsAreNotModified covers Z4 for arguments and their spare capacity.
func TestArgumentsAreNotModified(t *testing.T) {
	for _, c := range validateCases {
		l, want := copyOf(c.l, 77), copyOf(c.l, 77)
		sexpr.Validate(l)
		sexpr.Print(l)
		for i, n := range want[:len(want)+1] {
			got := l[:len(l)+1][i]
			if got.Symbol != n.Symbol || !reflect.DeepEqual(got.Children[:cap(got.Children)], n.Children[:cap(n.Children)]) {
				t.Errorf("%s: node %d is now %v, was %v", c.name, i, got, n)
			}
		}
	}
}

// TestResultsShareNoMemory covers Z4 for results: each result and each list of children has memory of its own.
func TestResultsShareNoMemory(t *testing.T) {
	const text = "((a b) (c d) (e f (g h)))"
	first, _ := sexpr.Read(text)
	second, _ := sexpr.Read(text)
	want := copyOf(second, 0)
	for i := range first {
		children := first[i].Children[:cap(first[i].Children)]
		for k := range children {
			children[k] = -5
		}
		for j := range first {
			if j > i && !slices.Equal(first[j].Children, want[j].Children) {
				t.Errorf("node %d changes with node %d: %v", j, i, first[j])
			}
		}
		first[i] = sym("x")
	}
	if !same(second, want) {
		t.Errorf("the second result has changed: %v", second)
	}
}
