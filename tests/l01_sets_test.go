package tests

import (
	"math"
	"slices"
	"testing"

	"loop.example/g01094/impl"
)

// listFunction is a function of chapter 1 from a relation to a list.
type listFunction struct {
	name       string
	call       func([]int64) ([]int64, int64)
	reference  func([]int64) []int64
	needsOrder bool
}

func listFunctions() []listFunction {
	return []listFunction{
		{"ConverseOf", impl.ConverseOf, refConverse, false},
		{"ClosureOfRelation", impl.ClosureOfRelation, refClosure, false},
		{"CoversOf", impl.CoversOf, refCovers, true},
		{"ComponentsOf", impl.ComponentsOf, refComponents, false},
		{"CliquesOf", impl.CliquesOf, refCliques, false},
		{"MaximalCliques", impl.MaximalCliques, refMaximal, false},
		{"DownsetsOf", impl.DownsetsOf, refDownsets, true},
	}
}

// mustBe reports an error unless a call returned this list and ErrNone.
func mustBe(t *testing.T, name string, argument, got []int64, code int64, want []int64) {
	t.Helper()
	if code != impl.ErrNone || !slices.Equal(got, want) {
		t.Errorf("%s(%v) = %v, %d, and not %v", name, argument, got, code, want)
	}
}

// mustFail reports an error unless a call returned this code and nothing beside it.
func mustFail(t *testing.T, name string, argument, got []int64, code, want int64) {
	t.Helper()
	if code != want || len(got) != 0 {
		t.Errorf("%s(%v) = %d elements, %d, and not the code %d alone", name, argument, len(got), code, want)
	}
}

func TestConstantsOfSets(t *testing.T) {
	got := []int64{impl.ErrNone, impl.ErrInvalid, impl.ErrRange, impl.ErrLimit, impl.ErrNotFound, impl.ErrState, impl.ErrSyntax, impl.MaxSet, impl.MaxFamily}
	mustBe(t, "the constants", nil, got, impl.ErrNone, []int64{0, 1, 2, 3, 4, 5, 6, 24, 4096})
}

func TestIsMask(t *testing.T) {
	cases := []struct {
		mask, n int64
		want    bool
	}{
		{0, 0, true}, {1, 0, false}, {1, 1, true}, {2, 1, false},
		{5, 3, true}, {7, 3, true}, {8, 3, false}, {9, 3, false},
		{1 << 22, 23, true}, {1 << 23, 23, false},
		{1 << 23, 24, true}, {1<<24 - 1, 24, true}, {1 << 24, 24, false},
		{0, 24, true}, {0, 25, false}, {1, 25, false}, {1 << 24, 25, false},
		{0, -1, false}, {1, -1, false}, {-1, 0, false}, {-1, 3, false}, {-1, 24, false}, {-8, 3, false},
		{math.MinInt64, 24, false}, {math.MaxInt64, 24, false}, {1 << 62, 24, false},
		{0, 63, false}, {0, 64, false}, {1, 65, false}, {0, math.MinInt64, false}, {0, math.MaxInt64, false},
		{0, 1 << 32, false}, {1 << 32, 3, false},
	}
	for _, c := range cases {
		if got := impl.IsMask(c.mask, c.n); got != c.want {
			t.Errorf("IsMask(%d, %d) = %v", c.mask, c.n, got)
		}
	}
}

func TestMembersOf(t *testing.T) {
	all := []int64{}
	for k := int64(0); k < 24; k++ {
		all = append(all, k)
	}
	cases := []struct {
		mask int64
		want []int64
	}{
		{0, nil}, {1, []int64{0}}, {2, []int64{1}}, {11, []int64{0, 1, 3}},
		{1 << 23, []int64{23}}, {1<<23 | 1, []int64{0, 23}}, {1<<24 - 1, all},
	}
	for _, c := range cases {
		got, code := impl.MembersOf(c.mask)
		mustBe(t, "MembersOf", []int64{c.mask}, got, code, c.want)
	}
	for _, mask := range []int64{-1, -24, 1 << 24, 1<<24 + 3, 1 << 32, 1 << 62, math.MaxInt64, math.MinInt64} {
		got, code := impl.MembersOf(mask)
		mustFail(t, "MembersOf", []int64{mask}, got, code, impl.ErrRange)
	}
}

func TestMaskOf(t *testing.T) {
	cases := []struct {
		list []int64
		want int64
	}{
		{nil, 0}, {[]int64{}, 0}, {[]int64{0}, 1}, {[]int64{23}, 1 << 23},
		{[]int64{3, 0, 3}, 9}, {[]int64{5, 5, 5}, 32}, {[]int64{0, 23, 1, 23, 0}, 1<<23 | 3},
		{slices.Repeat([]int64{7, 2}, 1000), 1<<7 | 1<<2},
	}
	for _, c := range cases {
		got, code := impl.MaskOf(c.list)
		mustBe(t, "MaskOf", c.list, []int64{got}, code, []int64{c.want})
	}
	for _, list := range [][]int64{{24}, {-1}, {0, 24}, {24, 0}, {3, -1, 4}, {64}, {1 << 32}, {math.MaxInt64}, {math.MinInt64}} {
		if got, code := impl.MaskOf(list); got != 0 || code != impl.ErrRange {
			t.Errorf("MaskOf(%v) = %d, %d", list, got, code)
		}
	}
}

func TestMembersAndMasksUndoEachOther(t *testing.T) {
	for mask := int64(0); mask < 1<<24; mask += 1 + mask/50 {
		list, code := impl.MembersOf(mask)
		if code != impl.ErrNone || !slices.IsSorted(list) {
			t.Fatalf("MembersOf(%d) = %v, %d", mask, list, code)
		}
		back, code := impl.MaskOf(list)
		mustBe(t, "MaskOf", list, []int64{back}, code, []int64{mask})
		slices.Reverse(list)
		back, code = impl.MaskOf(append(list, list...))
		mustBe(t, "MaskOf", list, []int64{back}, code, []int64{mask})
	}
}

// notRelations returns lists that are not relations.
func notRelations() [][]int64 {
	withNegative := complete(24)
	withNegative[23] = -1
	withLarge := complete(24)
	withLarge[0] = 1 << 24
	return [][]int64{
		{1, 4}, {2}, {4, 0}, {-1}, {0, -1}, {0, 0, -8}, {1 << 32}, {0, math.MaxInt64}, {math.MinInt64, 0},
		make([]int64, 25), antichain(25), complete(25), make([]int64, 100000), withNegative, withLarge,
	}
}

// notOrders returns relations that are not orders.
func notOrders() [][]int64 {
	lacksOne := antichain(24)
	lacksOne[13] = 0
	return [][]int64{
		{0}, {1, 0}, {3, 3}, {3, 6, 4}, {3, 2, 0}, {3, 6, 5}, {7, 7, 7}, {2, 1},
		make([]int64, 13), make([]int64, 24), complete(13), complete(24), lacksOne,
	}
}

func TestInvalidLists(t *testing.T) {
	for _, r := range notRelations() {
		if impl.IsRelation(r) || impl.IsOrder(r) {
			t.Errorf("%v is taken for a relation or an order", r)
		}
		for _, f := range listFunctions() {
			got, code := f.call(r)
			mustFail(t, f.name, r, got, code, impl.ErrInvalid)
		}
	}
	for _, r := range notOrders() {
		if !impl.IsRelation(r) || impl.IsOrder(r) {
			t.Errorf("%v is not taken for a relation that is not an order", r)
		}
		for _, f := range listFunctions() {
			if f.needsOrder {
				got, code := f.call(r)
				mustFail(t, f.name, r, got, code, impl.ErrInvalid)
			}
		}
	}
}

func TestEmptyRelation(t *testing.T) {
	for _, r := range [][]int64{nil, {}, make([]int64, 0, 9)} {
		if !impl.IsRelation(r) || !impl.IsOrder(r) {
			t.Errorf("the empty list is not an order")
		}
		for _, f := range listFunctions() {
			var want []int64
			switch f.name {
			case "CliquesOf", "MaximalCliques", "DownsetsOf":
				want = []int64{0}
			}
			got, code := f.call(r)
			mustBe(t, f.name, r, got, code, want)
		}
	}
}

func TestLargestRelations(t *testing.T) {
	const all = 1<<24 - 1
	for _, r := range [][]int64{antichain(24), complete(24), chains(24), make([]int64, 24)} {
		if !impl.IsRelation(r) {
			t.Errorf("%v is not a relation", r)
		}
	}
	up := chains(24)
	if !impl.IsOrder(up) || !impl.IsOrder(antichain(24)) || impl.IsOrder(complete(24)) {
		t.Errorf("IsOrder is wrong on 24 elements")
	}
	ring := make([]int64, 24)
	path := make([]int64, 24)
	down := make([]int64, 24)
	prefixes := []int64{0}
	for i := range ring {
		ring[i] = 1 << ((i + 1) % 24)
		path[i] = 2 << i & all
		down[i] = 2<<i - 1
		prefixes = append(prefixes, down[i])
	}
	got, code := impl.ClosureOfRelation(ring)
	mustBe(t, "ClosureOfRelation", ring, got, code, complete(24))
	got, code = impl.ClosureOfRelation(path)
	mustBe(t, "ClosureOfRelation", path, got, code, up)
	got, code = impl.CoversOf(up)
	mustBe(t, "CoversOf", up, got, code, path)
	got, code = impl.ConverseOf(up)
	mustBe(t, "ConverseOf", up, got, code, down)
	got, code = impl.ComponentsOf(path)
	mustBe(t, "ComponentsOf", path, got, code, []int64{all})
	got, code = impl.ComponentsOf(make([]int64, 24))
	mustBe(t, "ComponentsOf", nil, got, code, antichain(24))
	got, code = impl.DownsetsOf(up)
	mustBe(t, "DownsetsOf", up, got, code, prefixes)
	got, code = impl.CliquesOf(up)
	mustBe(t, "CliquesOf", up, got, code, append([]int64{0}, antichain(24)...))
	got, code = impl.MaximalCliques(up)
	mustBe(t, "MaximalCliques", up, got, code, antichain(24))
}

func TestOneDirectionOnly(t *testing.T) {
	r := []int64{4, 0, 0}
	got, code := impl.ComponentsOf(r)
	mustBe(t, "ComponentsOf", r, got, code, []int64{5, 2})
	got, code = impl.ConverseOf(r)
	mustBe(t, "ConverseOf", r, got, code, []int64{0, 0, 1})
	got, code = impl.CliquesOf(r)
	mustBe(t, "CliquesOf", r, got, code, []int64{0, 1, 2, 4})
	got, code = impl.MaximalCliques(r)
	mustBe(t, "MaximalCliques", r, got, code, []int64{1, 2, 4})
	vee := []int64{0, 0, 1, 3}
	got, code = impl.ComponentsOf(vee)
	mustBe(t, "ComponentsOf", vee, got, code, []int64{15})
	half := []int64{6, 1, 0}
	got, code = impl.CliquesOf(half)
	mustBe(t, "CliquesOf", half, got, code, []int64{0, 1, 2, 3, 4})
	got, code = impl.MaximalCliques(half)
	mustBe(t, "MaximalCliques", half, got, code, []int64{3, 4})
}

// checkAgainstDefinitions holds all functions against the definitions on one relation.
func checkAgainstDefinitions(t *testing.T, r []int64) {
	t.Helper()
	isOrder := refIsOrder(r)
	if !impl.IsRelation(r) || impl.IsOrder(r) != isOrder {
		t.Fatalf("IsRelation(%v) = %v and IsOrder = %v", r, impl.IsRelation(r), impl.IsOrder(r))
	}
	for _, f := range listFunctions() {
		got, code := f.call(r)
		if f.needsOrder && !isOrder {
			mustFail(t, f.name, r, got, code, impl.ErrInvalid)
		} else {
			mustBe(t, f.name, r, got, code, f.reference(r))
		}
	}
}

func TestDefinitionsOnAllSmallRelations(t *testing.T) {
	for n := 0; n <= 4; n++ {
		for all := int64(0); all < 1<<(n*n); all++ {
			r := make([]int64, n)
			for i := range r {
				r[i] = all >> (i * n) & (1<<n - 1)
			}
			checkAgainstDefinitions(t, r)
		}
	}
}

func TestDefinitionsOnSomeRelations(t *testing.T) {
	x := numbers(1)
	for n := 5; n <= 9; n++ {
		for rare := 1; rare <= n; rare++ {
			for range 20 {
				checkAgainstDefinitions(t, someRelation(&x, n, rare))
				checkAgainstDefinitions(t, someOrder(&x, n, rare))
			}
		}
	}
}

func TestFamiliesOfExactlyMaxFamily(t *testing.T) {
	x := numbers(2)
	// A chain has one downset more than elements, and a clique of `between` has at most one
	// element of each chain: 8 * 8 * 8 * 2 * 2 * 2 = 4096, and 7 * 7 * 7 cliques are maximal.
	for _, order := range [][]int64{antichain(12), chains(7, 7, 7, 1, 1, 1), chains(3, 3, 3, 3, 3, 3), chains(7, 3, 7, 3, 3)} {
		order = renamed(order, someNames(&x, len(order)))
		downsets, code := impl.DownsetsOf(order)
		if len(downsets) != impl.MaxFamily || code != impl.ErrNone || !isStrict(downsets) {
			t.Errorf("DownsetsOf(%v) has %d, %d", order, len(downsets), code)
		}
		cliques, code := impl.CliquesOf(between(order))
		if len(cliques) != impl.MaxFamily || code != impl.ErrNone || !isStrict(cliques) {
			t.Errorf("CliquesOf(%v) has %d, %d", between(order), len(cliques), code)
		}
	}
	got, code := impl.CliquesOf(complete(12))
	mustBe(t, "CliquesOf", complete(12), got, code, refCliques(complete(12)))
	got, code = impl.MaximalCliques(complete(12))
	mustBe(t, "MaximalCliques", complete(12), got, code, []int64{1<<12 - 1})
	got, code = impl.MaximalCliques(between(chains(7, 7, 7, 1, 1, 1)))
	if len(got) != 343 || code != impl.ErrNone || !isStrict(got) {
		t.Errorf("MaximalCliques has %d, %d", len(got), code)
	}
}

func isStrict(list []int64) bool {
	for i := 1; i < len(list); i++ {
		if list[i-1] >= list[i] {
			return false
		}
	}
	return true
}

func TestFamiliesOfMoreThanMaxFamily(t *testing.T) {
	oneAlone := append(complete(12), 0) // 4096 cliques and {12}
	top := append(antichain(12), 0)     // 4096 downsets, and the one with the element 12
	for i := range top {
		top[i] |= 1 << 12
	}
	bottom := append([]int64{1<<13 - 1}, antichain(13)[1:]...) // the empty downset, and 4096 with the element 0
	for _, r := range [][]int64{oneAlone, complete(13), complete(23), complete(24), between(antichain(24)), between(chains(3, 3, 3, 3, 3, 3, 1))} {
		for _, f := range listFunctions() {
			if f.name == "CliquesOf" || f.name == "MaximalCliques" {
				got, code := f.call(r)
				mustFail(t, f.name, r, got, code, impl.ErrLimit)
			}
		}
	}
	for _, r := range [][]int64{top, bottom, antichain(13), antichain(23), antichain(24), chains(3, 3, 3, 3, 3, 3, 1), chains(2, 2, 2, 2, 2, 2, 2, 2, 2, 2, 2, 2)} {
		got, code := impl.DownsetsOf(r)
		mustFail(t, "DownsetsOf", r, got, code, impl.ErrLimit)
	}
}

func TestPromise1(t *testing.T) {
	x := numbers(3)
	for n := 0; n <= 24; n++ {
		for rare := 1; rare <= 9; rare++ {
			order := someOrder(&x, n, rare)
			checkCoversGiveTheOrder(t, order)
			checkDownsetsAreClosed(t, order)
			checkCliquesAreInMaximalOnes(t, someRelation(&x, n, rare))
			checkCliquesAreInMaximalOnes(t, between(order))
		}
	}
}

func checkCoversGiveTheOrder(t *testing.T, order []int64) {
	t.Helper()
	covers, code := impl.CoversOf(order)
	if code != impl.ErrNone {
		t.Fatalf("CoversOf(%v): code %d", order, code)
	}
	got, code := impl.ClosureOfRelation(covers)
	mustBe(t, "ClosureOfRelation", covers, got, code, order)
	for i := range covers {
		for k := range covers {
			if related(covers, i, k) && !refIsCover(order, i, k) {
				t.Errorf("CoversOf(%v): %d does not cover %d", order, k, i)
			}
		}
	}
}

func checkDownsetsAreClosed(t *testing.T, order []int64) {
	t.Helper()
	downsets, code := impl.DownsetsOf(order)
	if code == impl.ErrLimit {
		mustFail(t, "DownsetsOf", order, downsets, code, impl.ErrLimit)
		return
	}
	if code != impl.ErrNone || len(downsets) == 0 || downsets[0] != 0 || downsets[len(downsets)-1] != 1<<len(order)-1 {
		t.Fatalf("DownsetsOf(%v) = %v, %d", order, downsets, code)
	}
	for i := 0; i < len(downsets); i += 1 + len(downsets)/300 {
		for k := 0; k < i; k += 1 + len(downsets)/300 {
			_, hasUnion := slices.BinarySearch(downsets, downsets[i]|downsets[k])
			_, hasMeet := slices.BinarySearch(downsets, downsets[i]&downsets[k])
			if !hasUnion || !hasMeet {
				t.Fatalf("DownsetsOf(%v): %d and %d lack union or intersection", order, downsets[i], downsets[k])
			}
		}
	}
}

func checkCliquesAreInMaximalOnes(t *testing.T, r []int64) {
	t.Helper()
	cliques, code := impl.CliquesOf(r)
	maximal, maximalCode := impl.MaximalCliques(r)
	if code != maximalCode || code == impl.ErrNone && len(maximal) == 0 {
		t.Fatalf("CliquesOf and MaximalCliques(%v): codes %d and %d, %d maximal", r, code, maximalCode, len(maximal))
	}
	for _, c := range cliques {
		inside := 0
		for _, m := range maximal {
			if c&^m == 0 {
				inside++
			}
		}
		_, isMaximal := slices.BinarySearch(maximal, c)
		if !refIsClique(r, c) || inside == 0 || isMaximal && inside > 1 {
			t.Fatalf("CliquesOf(%v): %d is in %d maximal ones", r, c, inside)
		}
	}
	for _, m := range maximal {
		if _, found := slices.BinarySearch(cliques, m); !found {
			t.Fatalf("MaximalCliques(%v): %d is no clique", r, m)
		}
	}
}

func TestSetsShareNoMemory(t *testing.T) {
	for _, r := range [][]int64{{7, 6, 4}, {1, 3, 7}, antichain(5), nil} {
		full := append(make([]int64, 0, len(r)+8), r...)
		for i := range full[len(r):cap(full)] {
			full[len(r):cap(full)][i] = -77 - int64(i)
		}
		before := slices.Clone(full[:cap(full)])
		for _, f := range listFunctions() {
			first, code := f.call(full)
			want := slices.Clone(first)
			for i := range first {
				first[i] = -5
			}
			_ = append(first, -6)
			if !slices.Equal(full[:cap(full)], before) {
				t.Fatalf("%s(%v) changes or shares its argument", f.name, r)
			}
			again, codeAgain := f.call(full)
			if code != codeAgain || !slices.Equal(again, want) {
				t.Errorf("%s(%v) = %v, %d the second time", f.name, r, again, codeAgain)
			}
		}
		impl.IsRelation(full)
		impl.IsOrder(full)
		impl.MaskOf(full)
		if !slices.Equal(full[:cap(full)], before) {
			t.Errorf("an argument of IsRelation, IsOrder or MaskOf is changed")
		}
	}
}
