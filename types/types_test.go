package types_test

import (
	"math"
	"reflect"
	"slices"
	"strings"
	"testing"

	"helmsman/api"
	"helmsman/types"
)

func fault(code, index int) api.Fault { return api.Fault{Code: code, Index: index} }

func ty(name string, parent int) api.Type { return api.Type{Name: name, Parent: parent} }

func ob(name string, t int) api.Object { return api.Object{Name: name, Type: t} }

// letter returns the name of one letter that a numbered type or object has in a test.
func letter(i int) string { return string(rune('a' + i)) }

// hierarchy returns types with the given parents, named a, b, c and so on.
func hierarchy(parents ...int) []api.Type {
	var l []api.Type
	for i, p := range parents {
		l = append(l, ty(letter(i), p))
	}
	return l
}

// objects returns objects of the given types, named a, b, c and so on.
func objects(of ...int) []api.Object {
	var l []api.Object
	for i, t := range of {
		l = append(l, ob(letter(i), t))
	}
	return l
}

// chain returns n types, each of which is the parent of the next one.
func chain(n int) []api.Type {
	var l []api.Type
	for i := range n {
		l = append(l, ty(letter(i), i-1))
	}
	return l
}

// many returns n objects of the type -1.
func many(n int) []api.Object { return objects(slices.Repeat([]int{-1}, n)...) }

// farNumbers are numbers that are neither -1 nor a type.
var farNumbers = []int{-2, -3, api.MaxTypes, api.MaxTypes + 1, math.MaxInt32, math.MinInt32, math.MaxInt, math.MinInt}

var validateCases = []struct {
	name string
	l    []api.Type
	want api.Fault
}{
	{"none", nil, fault(0, 0)},
	{"empty", []api.Type{}, fault(0, 0)},
	{"one", hierarchy(-1), fault(0, 0)},
	{"parent before", hierarchy(-1, 0), fault(0, 0)},
	{"two roots", hierarchy(-1, -1), fault(0, 0)},
	{"tree", hierarchy(-1, 0, 0, 1, -1, 4, 1), fault(0, 0)},
	{"as many as permitted", chain(api.MaxTypes), fault(0, 0)},
	{"longest name", []api.Type{ty("abcdefghijkl", -1)}, fault(0, 0)},
	{"all kinds of bytes", []api.Type{ty("az-09-", -1), ty("z--", 0), ty("a0", 1)}, fault(0, 0)},
	{"names like object", []api.Type{ty("objects", -1), ty("objec", -1), ty("object-", -1), ty("object1", -1)}, fault(0, 0)},
	{"names that begin alike", []api.Type{ty("ab", -1), ty("a", -1), ty("abc", -1)}, fault(0, 0)},

	{"one too many", chain(api.MaxTypes + 1), fault(api.ErrTooMany, -1)},
	{"too many, all invalid", make([]api.Type, api.MaxTypes+1), fault(api.ErrTooMany, -1)},
	{"far too many", make([]api.Type, 1000), fault(api.ErrTooMany, -1)},

	{"zero value", make([]api.Type, 1), fault(api.ErrName, 0)},
	{"no name", []api.Type{ty("", -1)}, fault(api.ErrName, 0)},
	{"name too long", []api.Type{ty("abcdefghijklm", -1)}, fault(api.ErrName, 0)},
	{"object", []api.Type{ty("object", -1)}, fault(api.ErrName, 0)},
	{"second is object", []api.Type{ty("a", -1), ty("object", 0)}, fault(api.ErrName, 1)},
	{"first digit", []api.Type{ty("1a", -1)}, fault(api.ErrName, 0)},
	{"first hyphen", []api.Type{ty("-a", -1)}, fault(api.ErrName, 0)},
	{"two invalid names", []api.Type{ty("a", -1), ty("B", -1), ty("C", -1)}, fault(api.ErrName, 1)},
	{"invalid name twice", []api.Type{ty("A", -1), ty("A", -1)}, fault(api.ErrName, 0)},
	{"invalid name and parent", []api.Type{ty("a", -1), ty("b c", 9)}, fault(api.ErrName, 1)},
	{"last one's name", append(chain(api.MaxTypes-1), ty("?", -1)), fault(api.ErrName, api.MaxTypes-1)},

	{"same name", []api.Type{ty("a", -1), ty("a", -1)}, fault(api.ErrExists, 1)},
	{"same name below", []api.Type{ty("a", -1), ty("a", 0)}, fault(api.ErrExists, 1)},
	{"same name as the first", []api.Type{ty("a", -1), ty("b", -1), ty("c", -1), ty("a", -1)}, fault(api.ErrExists, 3)},
	{"same name and invalid parent", []api.Type{ty("a", -1), ty("a", 1)}, fault(api.ErrExists, 1)},
	{"last one's name again", append(chain(api.MaxTypes-1), ty("c", -1)), fault(api.ErrExists, api.MaxTypes-1)},

	{"own parent", hierarchy(0), fault(api.ErrRange, 0)},
	{"second is its own parent", hierarchy(-1, 1), fault(api.ErrRange, 1)},
	{"later parent", hierarchy(1, -1), fault(api.ErrRange, 0)},
	{"later parent of the second", hierarchy(-1, 2, -1), fault(api.ErrRange, 1)},
	{"parent beyond the types", hierarchy(-1, 0, 3), fault(api.ErrRange, 2)},
	{"parent -2", hierarchy(-2), fault(api.ErrRange, 0)},
	{"least parent", hierarchy(-1, math.MinInt), fault(api.ErrRange, 1)},
	{"greatest parent", hierarchy(-1, math.MaxInt), fault(api.ErrRange, 1)},

	{"parent, then name", []api.Type{ty("a", 0), ty("", -1)}, fault(api.ErrRange, 0)},
	{"parent, then same name", []api.Type{ty("a", 0), ty("a", -1)}, fault(api.ErrRange, 0)},
	{"same name, then name", []api.Type{ty("a", -1), ty("a", -1), ty("!", -1)}, fault(api.ErrExists, 1)},
	{"name, then parent", []api.Type{ty("A", -1), ty("a", -9)}, fault(api.ErrName, 0)},
}

// TestValidate covers R2.1.
func TestValidate(t *testing.T) {
	for _, c := range validateCases {
		if got := types.Validate(c.l); got != c.want {
			t.Errorf("%s: got %v, want %v", c.name, got, c.want)
		}
	}
}

// nameCases are names as the chapter defines them, and strings that are none.
var nameCases = []struct {
	s  string
	is bool
}{
	{"a", true}, {"z", true}, {"a-", true}, {"a--b", true}, {"x0123456789", true},
	{strings.Repeat("a", api.MaxName), true}, {"not", true}, {"domain", true},
	{"", false}, {strings.Repeat("a", api.MaxName+1), false}, {strings.Repeat("a", 100000), false},
	{"-", false}, {"0", false}, {"A", false}, {"aB", false}, {"a b", false}, {" a", false}, {"a ", false},
	{"a_b", false}, {"?a", false}, {"a.", false}, {"a\x00", false}, {"\u00e4", false}, {"a\u00e4", false},
	{"a\u212a", false}, {"a\xff", false}, {"a\n", false},
}

// TestNames covers names of types and of objects.
func TestNames(t *testing.T) {
	for _, c := range nameCases {
		checkName(t, c.s, c.is)
	}
	for b := range 256 {
		c := byte(b)
		lower, other := 'a' <= c && c <= 'z', '0' <= c && c <= '9' || c == '-'
		s := string([]byte{c})
		checkName(t, s, lower)
		checkName(t, s+"a", lower)
		checkName(t, "a"+s, lower || other)
		checkName(t, "a"+s+"b", lower || other)
		checkName(t, "abcdefghijk"+s, lower || other)
	}
}

// checkName reports an error if IsName does not tell whether s is a name, or if a type or an object is not permitted to have the name s exactly if it is one.
func checkName(t *testing.T, s string, is bool) {
	t.Helper()
	var wantType, wantObject api.Fault
	if !is {
		wantType, wantObject = fault(api.ErrName, 0), fault(api.ErrName, -10)
	}
	if got := types.IsName(s); got != is {
		t.Errorf("IsName(%q) = %v", s, got)
	}
	if got := types.Validate([]api.Type{ty(s, -1)}); got != wantType {
		t.Errorf("type %q: got %v, want %v", s, got, wantType)
	}
	if _, got := types.Members(nil, []api.Object{ob(s, -1)}, -1); got != wantObject {
		t.Errorf("object %q: got %v, want %v", s, got, wantObject)
	}
}

// tree is the hierarchy of the examples below: b and c are below a, d below b, e is a root, and f is below e.
var tree = hierarchy(-1, 0, 0, 1, -1, 4)

var subCases = []struct {
	a, b int
	want bool
}{
	{0, 0, true}, {3, 3, true}, {5, 5, true}, {-1, -1, true},
	{1, 0, true}, {2, 0, true}, {3, 1, true}, {3, 0, true}, {5, 4, true},
	{0, -1, true}, {3, -1, true}, {4, -1, true}, {5, -1, true},
	{0, 1, false}, {0, 3, false}, {1, 3, false}, {1, 2, false}, {2, 1, false}, {3, 2, false}, {4, 5, false},
	{0, 4, false}, {4, 0, false}, {5, 0, false}, {3, 4, false},
	{-1, 0, false}, {-1, 3, false}, {-1, 5, false},
}

// TestSub covers R2.2.
func TestSub(t *testing.T) {
	for _, c := range subCases {
		if got, f := types.Sub(tree, c.a, c.b); got != c.want || f != fault(0, 0) {
			t.Errorf("Sub(%d, %d) = %v, %v, want %v", c.a, c.b, got, f, c.want)
		}
	}
	if got, f := types.Sub(nil, -1, -1); !got || f != fault(0, 0) {
		t.Errorf("Sub without types = %v, %v", got, f)
	}
	if got, f := types.Sub(chain(api.MaxTypes), api.MaxTypes-1, 0); !got || f != fault(0, 0) {
		t.Errorf("Sub of the ends of the longest chain = %v, %v", got, f)
	}
}

var joinCases = []struct{ a, b, want int }{
	{0, 0, 0}, {3, 3, 3}, {-1, -1, -1},
	{1, 0, 0}, {0, 1, 0}, {3, 1, 1}, {1, 3, 1}, {3, 0, 0}, {0, 3, 0}, {4, 5, 4}, {5, 4, 4},
	{1, 2, 0}, {2, 1, 0}, {3, 2, 0}, {2, 3, 0},
	{0, 4, -1}, {4, 0, -1}, {3, 5, -1}, {5, 2, -1},
	{-1, 0, -1}, {0, -1, -1}, {3, -1, -1}, {-1, 5, -1},
}

// TestJoin covers R2.3.
func TestJoin(t *testing.T) {
	for _, c := range joinCases {
		if got, f := types.Join(tree, c.a, c.b); got != c.want || f != fault(0, 0) {
			t.Errorf("Join(%d, %d) = %d, %v, want %d", c.a, c.b, got, f, c.want)
		}
	}
	if got, f := types.Join(nil, -1, -1); got != -1 || f != fault(0, 0) {
		t.Errorf("Join without types = %d, %v", got, f)
	}
}

var membersCases = []struct {
	objects []api.Object
	t       int
	want    []int
}{
	{objects(0, 1, 2, 3, 4, 5, -1), -1, []int{0, 1, 2, 3, 4, 5, 6}},
	{objects(0, 1, 2, 3, 4, 5, -1), 0, []int{0, 1, 2, 3}},
	{objects(0, 1, 2, 3, 4, 5, -1), 1, []int{1, 3}},
	{objects(0, 1, 2, 3, 4, 5, -1), 2, []int{2}},
	{objects(0, 1, 2, 3, 4, 5, -1), 3, []int{3}},
	{objects(0, 1, 2, 3, 4, 5, -1), 4, []int{4, 5}},
	{objects(0, 1, 2, 3, 4, 5, -1), 5, []int{5}},
	{objects(3, -1, 3, 0, 5, 1, 3, 2), 1, []int{0, 2, 5, 6}},
	{objects(-1, -1), 0, nil},
	{objects(-1, -1), -1, []int{0, 1}},
	{objects(5, 4), 0, nil},
	{nil, -1, nil},
	{nil, 3, nil},
	{[]api.Object{}, 0, nil},
	{many(api.MaxObjects), -1, []int{0, 1, 2, 3, 4, 5, 6, 7}},
	{[]api.Object{ob("object", 0), ob("d", 3), ob("not", 4)}, 0, []int{0, 1}},
}

// TestMembers covers R2.4. An object can have the name of a type, and also the name object.
func TestMembers(t *testing.T) {
	for _, c := range membersCases {
		if got, f := types.Members(tree, c.objects, c.t); !slices.Equal(got, c.want) || f != fault(0, 0) {
			t.Errorf("Members(%v, %d) = %v, %v, want %v", c.objects, c.t, got, f, c.want)
		}
	}
	if got, f := types.Members(nil, objects(-1, -1), -1); !slices.Equal(got, []int{0, 1}) || f != fault(0, 0) {
		t.Errorf("Members without types = %v, %v", got, f)
	}
}

// checkFaults reports an error if Sub, Join or Members does not report the fault want, with zero values, for the types a and b. Members is not asked for -1 where another number is at fault.
func checkFaults(t *testing.T, l []api.Type, a, b int, o []api.Object, want api.Fault) {
	t.Helper()
	if got, f := types.Sub(l, a, b); got || f != want {
		t.Errorf("Sub(%v, %d, %d) = %v, %v, want %v", l, a, b, got, f, want)
	}
	if got, f := types.Join(l, a, b); got != 0 || f != want {
		t.Errorf("Join(%v, %d, %d) = %d, %v, want %v", l, a, b, got, f, want)
	}
	for _, n := range []int{a, b} {
		if n == -1 && want.Index == -2 {
			continue
		}
		if got, f := types.Members(l, o, n); got != nil || f != want {
			t.Errorf("Members(%v, %v, %d) = %v, %v, want %v", l, o, n, got, f, want)
		}
	}
}

// TestHierarchyComesFirst covers that Sub, Join and Members report the errors of Validate before their own.
func TestHierarchyComesFirst(t *testing.T) {
	for _, c := range validateCases {
		if c.want == fault(0, 0) {
			continue
		}
		checkFaults(t, c.l, -1, -1, nil, c.want)
		checkFaults(t, c.l, 0, 0, objects(0), c.want)
		checkFaults(t, c.l, -2, 99, many(api.MaxObjects+1), c.want)
	}
}

// TestNumbersOfTypes covers ErrRange at -2, which comes before the errors of objects.
func TestNumbersOfTypes(t *testing.T) {
	for _, far := range farNumbers {
		checkFaults(t, chain(api.MaxTypes), far, far, nil, fault(api.ErrRange, -2))
		checkFaults(t, chain(api.MaxTypes), far, -1, many(api.MaxObjects+1), fault(api.ErrRange, -2))
		checkFaults(t, chain(api.MaxTypes), -1, far, []api.Object{ob("", -5)}, fault(api.ErrRange, -2))
	}
	for n := range api.MaxTypes {
		checkFaults(t, chain(n), n, n, nil, fault(api.ErrRange, -2))
		checkFaults(t, chain(n), -1, n, nil, fault(api.ErrRange, -2))
		checkFaults(t, chain(n), n, -1, nil, fault(api.ErrRange, -2))
	}
}

var objectFaults = []struct {
	name    string
	objects []api.Object
	want    api.Fault
}{
	{"one too many", many(api.MaxObjects + 1), fault(api.ErrTooMany, -3)},
	{"too many, all invalid", make([]api.Object, api.MaxObjects+1), fault(api.ErrTooMany, -3)},
	{"far too many", make([]api.Object, 1000), fault(api.ErrTooMany, -3)},

	{"no name", []api.Object{ob("", 0)}, fault(api.ErrName, -10)},
	{"name too long", []api.Object{ob("abcdefghijklm", 0)}, fault(api.ErrName, -10)},
	{"first digit", []api.Object{ob("a", 0), ob("0", 0)}, fault(api.ErrName, -11)},
	{"invalid name twice", []api.Object{ob("A", 0), ob("A", 0)}, fault(api.ErrName, -10)},
	{"invalid name and type", []api.Object{ob("a", 0), ob("b", 0), ob("C", 9)}, fault(api.ErrName, -12)},
	{"last one's name", append(many(api.MaxObjects-1), ob("?", 0)), fault(api.ErrName, -9-api.MaxObjects)},

	{"same name, same type", []api.Object{ob("a", 0), ob("a", 0)}, fault(api.ErrExists, -11)},
	{"same name, other type", []api.Object{ob("a", 0), ob("b", 0), ob("a", 1)}, fault(api.ErrExists, -12)},
	{"same name and invalid type", []api.Object{ob("a", 0), ob("a", 6)}, fault(api.ErrExists, -11)},
	{"same name object", []api.Object{ob("object", 0), ob("object", -1)}, fault(api.ErrExists, -11)},
	{"last one's name again", append(many(api.MaxObjects-1), ob("c", 0)), fault(api.ErrExists, -9-api.MaxObjects)},

	{"type -2", objects(-2), fault(api.ErrRange, -10)},
	{"type after the last one", objects(-1, 5, 6), fault(api.ErrRange, -12)},
	{"least type", objects(0, math.MinInt), fault(api.ErrRange, -11)},
	{"greatest type", objects(0, math.MaxInt), fault(api.ErrRange, -11)},
	{"last one's type", append(many(api.MaxObjects-1), ob("x", -2)), fault(api.ErrRange, -9-api.MaxObjects)},

	{"type, then name", []api.Object{ob("a", 6), ob("", 0)}, fault(api.ErrRange, -10)},
	{"type, then same name", []api.Object{ob("a", 6), ob("a", 0)}, fault(api.ErrRange, -10)},
	{"same name, then name", []api.Object{ob("a", 0), ob("a", 0), ob("!", 0)}, fault(api.ErrExists, -11)},
	{"name, then type", []api.Object{ob("-", 0), ob("a", -3)}, fault(api.ErrName, -10)},
}

// TestObjectFaults covers the errors of R2.4 for objects, whatever type is asked for.
func TestObjectFaults(t *testing.T) {
	for _, c := range objectFaults {
		for n := -1; n < len(tree); n++ {
			got, f := types.Members(tree, c.objects, n)
			if f != c.want || f != fault(0, 0) && got != nil {
				t.Errorf("%s: Members for %d = %v, %v, want %v", c.name, n, got, f, c.want)
			}
		}
	}
	for n := range api.MaxTypes {
		if got, f := types.Members(chain(n), objects(n), -1); got != nil || f != fault(api.ErrRange, -10) {
			t.Errorf("an object of the type %d of %d: got %v, %v", n, n, got, f)
		}
	}
}

// sequences calls f with each list of n numbers from low to high.
func sequences(low, high, n int, f func([]int)) {
	if n == 0 {
		f(nil)
		return
	}
	for i := low; i <= high; i++ {
		sequences(low, high, n-1, func(rest []int) { f(append([]int{i}, rest...)) })
	}
}

// below returns, for types with the given valid parents, whether b is a supertype of a at [a+1][b+1]: the reflexive and transitive closure of the parents.
func below(parents []int) [][]bool {
	n := len(parents) + 1
	is := make([][]bool, n)
	for a := range is {
		is[a] = make([]bool, n)
		is[a][a] = true
		if a > 0 {
			is[a][parents[a-1]+1] = true
		}
	}
	for k := range n {
		for a := range n {
			for b := range n {
				is[a][b] = is[a][b] || is[a][k] && is[k][b]
			}
		}
	}
	return is
}

// TestAllSmallHierarchies examines all lists of at most 4 parents: those in which each parent is -1 or an earlier type are valid, and Sub, Join and Members agree with the closure of the parents.
func TestAllSmallHierarchies(t *testing.T) {
	for n := range 5 {
		sequences(-2, n, n, func(parents []int) {
			l, want := hierarchy(parents...), fault(0, 0)
			for i := n - 1; i >= 0; i-- {
				if parents[i] < -1 || parents[i] >= i {
					want = fault(api.ErrRange, i)
				}
			}
			if got := types.Validate(l); got != want {
				t.Fatalf("Validate(%v) = %v, want %v", l, got, want)
			}
			if want == fault(0, 0) {
				checkHierarchy(t, l, below(parents))
			}
		})
	}
}

// checkHierarchy compares Sub, Join and Members with a table of all supertypes.
func checkHierarchy(t *testing.T, l []api.Type, is [][]bool) {
	n := len(l)
	var of []int
	for a := n - 1; a >= -1; a-- {
		of = append(of, a)
	}
	for a := -1; a < n; a++ {
		var members []int
		for i, o := range of {
			if is[o+1][a+1] {
				members = append(members, i)
			}
		}
		if got, f := types.Members(l, objects(of...), a); !slices.Equal(got, members) || f != fault(0, 0) {
			t.Fatalf("Members(%v, %v, %d) = %v, %v, want %v", l, of, a, got, f, members)
		}
		for b := -1; b < n; b++ {
			if got, f := types.Sub(l, a, b); got != is[a+1][b+1] || f != fault(0, 0) {
				t.Fatalf("Sub(%v, %d, %d) = %v, %v", l, a, b, got, f)
			}
			// Among the common supertypes, the first one is the one with the greatest number, as parents come before their types.
			join := -1
			for c := range n {
				if is[a+1][c+1] && is[b+1][c+1] {
					join = c
				}
			}
			if got, f := types.Join(l, a, b); got != join || f != fault(0, 0) {
				t.Fatalf("Join(%v, %d, %d) = %d, %v, want %d", l, a, b, got, f, join)
			}
		}
	}
}

// withSpare returns a copy of l whose spare capacity holds the given value.
func withSpare[E any](l []E, spare E) []E {
	return append(slices.Clip(slices.Clone(l)), spare)[:len(l)]
}

// TestArgumentsAreNotModified covers Z4 for arguments and their spare capacity.
func TestArgumentsAreNotModified(t *testing.T) {
	for _, c := range validateCases {
		for _, d := range objectFaults {
			l, o := withSpare(c.l, ty("spare", 77)), withSpare(d.objects, ob("spare", 77))
			l0, o0 := slices.Clone(l[:len(l)+1]), slices.Clone(o[:len(o)+1])
			for n := -2; n < len(l)+1; n++ {
				types.Validate(l)
				types.Sub(l, n, -1)
				types.Join(l, n, n)
				types.Members(l, o, n)
			}
			if !reflect.DeepEqual(l[:len(l)+1], l0) || !reflect.DeepEqual(o[:len(o)+1], o0) {
				t.Errorf("%s, %s: the arguments are now %v and %v", c.name, d.name, l, o)
			}
		}
	}
}

// TestResultsShareNoMemory covers Z4 for results.
func TestResultsShareNoMemory(t *testing.T) {
	o := objects(0, 1, 2, 3, 4, 5, -1)
	first, _ := types.Members(tree, o, 0)
	second, _ := types.Members(tree, o, 0)
	first = first[:cap(first)]
	for i := range first {
		first[i] = -7
	}
	third, _ := types.Members(tree, o, 0)
	if want := []int{0, 1, 2, 3}; !slices.Equal(second, want) || !slices.Equal(third, want) {
		t.Errorf("got %v and %v, want %v", second, third, want)
	}
}
