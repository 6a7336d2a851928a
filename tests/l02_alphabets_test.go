package tests

import (
	"maps"
	"math"
	"slices"
	"strconv"
	"strings"
	"testing"

	"loop.example/g01094/impl"
)

// mustBeAlphabet reports an error unless a call returned this alphabet and ErrNone.
func mustBeAlphabet(t *testing.T, name string, argument any, got impl.Alphabet, code int64, want impl.Alphabet) {
	t.Helper()
	if code != impl.ErrNone || !areEqual(got, want) {
		t.Errorf("%s(%v) = %v, %d, and not %v", name, argument, got, code, want)
	}
}

// mustFailAlphabet reports an error unless a call returned this code and the zero value beside it.
func mustFailAlphabet(t *testing.T, name string, argument any, got impl.Alphabet, code, want int64) {
	t.Helper()
	if code != want || !areEqual(got, impl.Alphabet{}) {
		t.Errorf("%s(%v) = %v, %d, and not the code %d alone", name, argument, got, code, want)
	}
}

// mustReport reports an error unless a call returned this answer and ErrNone.
func mustReport(t *testing.T, name string, argument any, got bool, code int64, want bool) {
	t.Helper()
	if code != impl.ErrNone || got != want {
		t.Errorf("%s(%v) = %v, %d", name, argument, got, code)
	}
}

// quoted returns the beginning of a text, which may have any bytes, as it can be printed.
func quoted(text string) string { return strconv.Quote(text[:min(len(text), 100)]) }

// notAlphabets returns structs that are not alphabets.
func notAlphabets() []impl.Alphabet {
	list := []impl.Alphabet{
		{Letters: 1}, {Letters: 2, Depends: []int64{1}}, {Letters: 1, Depends: []int64{1, 2}}, {Letters: 0, Depends: []int64{1}},
		{Letters: -1}, {Letters: -1, Depends: []int64{1}}, {Letters: math.MinInt64}, {Letters: math.MaxInt64}, {Letters: 1 << 32},
		{Letters: 9, Depends: antichain(8)}, {Letters: 8, Depends: antichain(9)}, {Letters: 8, Depends: antichain(7)},
		alphabetWith(0), alphabetWith(2), alphabetWith(3), alphabetWith(-1), alphabetWith(1, 0), alphabetWith(0, 2),
		alphabetWith(3, 2), alphabetWith(1, 3), alphabetWith(2, 1), alphabetWith(3, 1), alphabetWith(1, 2, 7), alphabetWith(5, 2, 4),
		alphabetWith(5, 2), alphabetWith(1, 6), alphabetWith(1, -2), alphabetWith(math.MinInt64|1, 2), alphabetWith(1<<32|1, 2),
		alphabetWith(antichain(9)...), alphabetWith(complete(9)...), alphabetWith(antichain(24)...), alphabetWith(antichain(25)...),
		alphabetWith(make([]int64, 100000)...),
	}
	lacksItself, oneWay, outside := complete(8), complete(8), complete(8)
	lacksItself[7] ^= 1 << 7
	oneWay[7] ^= 1
	outside[0] |= 1 << 8
	return append(list, alphabetWith(lacksItself...), alphabetWith(oneWay...), alphabetWith(outside...))
}

// testAlphabets returns the alphabets with up to 4 letters, and some with 5 to 8.
func testAlphabets() []impl.Alphabet {
	list := evenAlphabets()
	for n := range 5 {
		list = append(list, allAlphabetsOf(n)...)
	}
	x := numbers(20)
	for n := 5; n <= 8; n++ {
		for rare := 1; rare <= n; rare++ {
			for range 5 {
				list = append(list, someAlphabet(&x, n, rare), refComplement(someAlphabet(&x, n, rare)))
			}
		}
	}
	return list
}

func TestConstantsOfAlphabets(t *testing.T) {
	if impl.MaxLetters != 8 || impl.MaxProcesses != 16 {
		t.Errorf("the limits are %d letters and %d processes", impl.MaxLetters, impl.MaxProcesses)
	}
}

func TestIsAlphabet(t *testing.T) {
	for _, x := range testAlphabets() {
		if !impl.IsAlphabet(x) {
			t.Errorf("IsAlphabet(%v) is false", x)
		}
	}
	for _, x := range notAlphabets() {
		if impl.IsAlphabet(x) {
			t.Errorf("IsAlphabet(%v) is true", x)
		}
	}
	for _, x := range []impl.Alphabet{{}, {Depends: []int64{}}, alphabetWith(1), alphabetWith(antichain(8)...), alphabetWith(complete(8)...)} {
		if !impl.IsAlphabet(x) {
			t.Errorf("IsAlphabet(%v) is false", x)
		}
	}
}

func TestIsAlphabetOnAllSmallLists(t *testing.T) {
	for n := range 4 {
		for all := int64(0); all < 1<<(n*(n+1)); all++ {
			depends := make([]int64, n)
			for i := range depends {
				depends[i] = all >> (i * (n + 1)) & (1<<(n+1) - 1)
			}
			for letters := int64(-1); letters <= 4; letters++ {
				x := impl.Alphabet{Letters: letters, Depends: depends}
				if got := impl.IsAlphabet(x); got != refIsAlphabet(x) {
					t.Fatalf("IsAlphabet(%v) = %v", x, got)
				}
			}
		}
	}
}

func TestAreDependent(t *testing.T) {
	for _, x := range testAlphabets() {
		for a := range x.Letters {
			for b := range x.Letters {
				got, code := impl.AreDependent(x, a, b)
				mustReport(t, "AreDependent", []any{x, a, b}, got, code, related(x.Depends, int(a), int(b)))
			}
		}
		for _, a := range []int64{-1, x.Letters, 64, math.MinInt64, math.MaxInt64} {
			for _, pair := range [][2]int64{{a, 0}, {0, a}, {a, a}} {
				if got, code := impl.AreDependent(x, pair[0], pair[1]); got || code != impl.ErrRange {
					t.Errorf("AreDependent(%v, %v) = %v, %d", x, pair, got, code)
				}
			}
		}
	}
}

func TestTexts(t *testing.T) {
	cases := map[string]impl.Alphabet{
		"0:": {}, "1:": alphabetWith(1), "2:": alphabetWith(1, 2), "2: ab": alphabetWith(3, 3),
		"4: ab ad bc cd": alphabetWith(11, 7, 14, 13), "8:": alphabetWith(antichain(8)...),
		"8: ah":                alphabetWith(1<<7|1, 2, 4, 8, 16, 32, 64, 1<<7|1),
		"8: ab ac bc fg fh gh": alphabetWith(7, 7, 7, 8, 16, 224, 224, 224),
		"8: ab ac ad ae af ag ah bc bd be bf bg bh cd ce cf cg ch de df dg dh ef eg eh fg fh gh": alphabetWith(complete(8)...),
	}
	for text, x := range cases {
		if got, code := impl.AlphabetText(x); got != text || code != impl.ErrNone {
			t.Errorf("AlphabetText(%v) = %q, %d", x, got, code)
		}
		got, code := impl.ParseAlphabet(text)
		mustBeAlphabet(t, "ParseAlphabet", quoted(text), got, code, x)
	}
	for _, x := range slices.Concat(testAlphabets(), allAlphabetsOf(5)) {
		text, code := impl.AlphabetText(x)
		if text != refText(x) || code != impl.ErrNone {
			t.Errorf("AlphabetText(%v) = %q, %d", x, text, code)
		}
		got, code := impl.ParseAlphabet(refText(x))
		mustBeAlphabet(t, "ParseAlphabet", quoted(text), got, code, x)
	}
}

func TestTextsOfNoAlphabet(t *testing.T) {
	bad := []string{
		"", " ", ":", "2", "22", "2 ", "2 ab", "2:ab", "2:: ab", " 2:", "2:\n", "\n2:", "2: ", "2: ab ", "2:  ab", "2: a b", "2: ab  ",
		"02:", "00:", "+2:", "-2:", "-0:", "2.:", "2 :", "9:", "10:", "18:", "8 :", "/:", "a:", "x:", "2;", "2; ab", "2, ab", "2:,ab",
		"2: ba", "2: aa", "2: bb", "2: ab ab", "2: ab ba", "2: ab aa", "3: bc ab", "3: ac ab", "3: bc ac", "3: ab bc ac", "3: ab bc bc",
		"2: ac", "2: bc", "0: ab", "1: ab", "7: ah", "7: gh", "8: ai", "8: hi", "8: a`", "8: `a", "8: ha", "3: abc", "3: ab c", "3: abbc",
		"2: a", "2: b", "2: AB", "2: aB", "3: ab bc c", "3: ab bc ", "3: ab\tbc", "3: ab\nbc", "3: ab\x00bc", "3: ab bc\n", "3: ab,bc", "2: ab:",
		"2: ab \xff", "\xff: ab", "2\xff", "2:\xff", "2:\xffab", "2: \xff\xfe", "2: a\xc3", "2: ab\xe2\x82", "\xc0\xb2:", "2: a\x80b",
		"２:", "2：", "2: аb", "2: aЬ", "2:\u00a0ab", "2: ab\u0301", "\ufeff2:", "\u0662:", "2: \U0001d41a\U0001d41b", "\ufffd:", "2: a\ufffd",
		"2: ab" + strings.Repeat(" ab", 100000), "2:" + strings.Repeat(" ", 100000), strings.Repeat("8", 100000), strings.Repeat("\xff", 100000),
	}
	for _, text := range bad {
		got, code := impl.ParseAlphabet(text)
		mustFailAlphabet(t, "ParseAlphabet", quoted(text), got, code, impl.ErrSyntax)
	}
}

// textsOf returns the texts of all alphabets with at most n letters.
func textsOf(n int) map[string]impl.Alphabet {
	texts := map[string]impl.Alphabet{}
	for k := range n + 1 {
		for _, x := range allAlphabetsOf(k) {
			texts[refText(x)] = x
		}
	}
	return texts
}

// checkText holds ParseAlphabet against the texts of all alphabets that may have this text.
func checkText(t *testing.T, texts map[string]impl.Alphabet, text string) {
	t.Helper()
	got, code := impl.ParseAlphabet(text)
	if want, found := texts[text]; found {
		mustBeAlphabet(t, "ParseAlphabet", quoted(text), got, code, want)
	} else {
		mustFailAlphabet(t, "ParseAlphabet", quoted(text), got, code, impl.ErrSyntax)
	}
}

func TestAllShortTexts(t *testing.T) {
	texts := textsOf(3)
	level := []string{""}
	for range 6 {
		var longer []string
		for _, text := range level {
			checkText(t, texts, text)
			for _, c := range "0123: abc" {
				longer = append(longer, text+string(c))
			}
		}
		level = longer
	}
}

func TestTextsWithOneChange(t *testing.T) {
	texts := textsOf(4)
	for _, text := range slices.Sorted(maps.Keys(texts)) {
		for i := range len(text) + 1 {
			for _, c := range []byte("04: abd\n\xff") {
				checkText(t, texts, text[:i]+string([]byte{c})+text[i:])
				if i < len(text) {
					checkText(t, texts, text[:i]+string([]byte{c})+text[i+1:])
				}
			}
			if i < len(text) {
				checkText(t, texts, text[:i]+text[i+1:])
			}
		}
	}
}

func TestAlphabetOfProcesses(t *testing.T) {
	x := numbers(21)
	lists := [][]int64{nil, {}, {0}, {0, 0}, {1}, {1, 1}, {3}, {3, 3}, {3, 2, 0}, {3, 6}, {6, 3, 6}, {7}, {255}, make([]int64, 16), slices.Repeat([]int64{129}, 16)}
	for range 300 {
		list := make([]int64, x.below(17))
		for i := range list {
			list[i] = int64(x.below(256) & x.below(256))
		}
		lists = append(lists, list)
	}
	for _, list := range lists {
		for n := range 9 {
			if slices.ContainsFunc(list, func(p int64) bool { return p >= 1<<n }) {
				continue
			}
			got, code := impl.AlphabetOfProcesses(int64(n), list)
			mustBeAlphabet(t, "AlphabetOfProcesses", []any{n, list}, got, code, refAlphabetOfProcesses(n, list))
			domains, code := impl.DomainsOf(int64(n), list)
			mustBe(t, "DomainsOf", list, domains, code, refDomains(n, list))
		}
	}
}

func TestProcessesThatAreRefused(t *testing.T) {
	tooMany := make([]int64, 17)
	lastIsWrong := append(make([]int64, 16), 4)
	cases := []struct {
		n    int64
		list []int64
		want int64
	}{
		{-1, nil, impl.ErrRange}, {9, nil, impl.ErrRange}, {9, []int64{1}, impl.ErrRange}, {math.MinInt64, nil, impl.ErrRange},
		{math.MaxInt64, nil, impl.ErrRange}, {24, []int64{0}, impl.ErrRange}, {1 << 32, nil, impl.ErrRange},
		{0, []int64{1}, impl.ErrRange}, {2, []int64{4}, impl.ErrRange}, {2, []int64{3, 7}, impl.ErrRange}, {2, []int64{-1}, impl.ErrRange},
		{8, []int64{256}, impl.ErrRange}, {8, []int64{0, math.MinInt64}, impl.ErrRange}, {8, []int64{math.MaxInt64, 0}, impl.ErrRange},
		{0, tooMany, impl.ErrLimit}, {2, tooMany, impl.ErrLimit}, {8, slices.Repeat([]int64{255}, 17), impl.ErrLimit}, {8, make([]int64, 100000), impl.ErrLimit},
		{2, lastIsWrong, impl.ErrRange}, {-1, tooMany, impl.ErrRange}, {9, tooMany, impl.ErrRange}, {2, append(slices.Clone(tooMany), -1), impl.ErrRange},
	}
	for _, c := range cases {
		got, code := impl.AlphabetOfProcesses(c.n, c.list)
		mustFailAlphabet(t, "AlphabetOfProcesses", c.n, got, code, c.want)
		domains, code := impl.DomainsOf(c.n, c.list)
		mustFail(t, "DomainsOf", c.list, domains, code, c.want)
	}
}

// checkProcesses holds ProcessesOf against the definition on one alphabet.
func checkProcesses(t *testing.T, x impl.Alphabet) {
	t.Helper()
	got, code := impl.ProcessesOf(x)
	want := refProcesses(x)
	if len(want) > 16 {
		mustFail(t, "ProcessesOf", x.Depends, got, code, impl.ErrLimit)
		return
	}
	mustBe(t, "ProcessesOf", x.Depends, got, code, want)
	back, code := impl.AlphabetOfProcesses(x.Letters, got)
	mustBeAlphabet(t, "AlphabetOfProcesses", got, back, code, x)
}

func TestSetsOfLetters(t *testing.T) {
	for _, x := range slices.Concat(testAlphabets(), allAlphabetsOf(5)) {
		checkProcesses(t, x)
		got, code := impl.StepsOf(x)
		mustBe(t, "StepsOf", x.Depends, got, code, refSteps(x))
		got, code = impl.PartsOfAlphabet(x)
		mustBe(t, "PartsOfAlphabet", x.Depends, got, code, refComponents(x.Depends))
	}
}

func TestLimitOfProcesses(t *testing.T) {
	// No alphabet has exactly 17 processes.
	for _, x := range []impl.Alphabet{groups(false, 2, 2, 2, 2), groups(false, 4, 4)} {
		got, code := impl.ProcessesOf(x)
		if len(got) != impl.MaxProcesses || code != impl.ErrNone || !isStrict(got) {
			t.Errorf("ProcessesOf(%v) = %v, %d", x, got, code)
		}
	}
	for _, x := range []impl.Alphabet{groups(false, 3, 3, 2), groups(false, 2, 3, 3)} {
		got, code := impl.ProcessesOf(x)
		mustFail(t, "ProcessesOf", x.Depends, got, code, impl.ErrLimit)
	}
	x := alphabetWith(antichain(8)...)
	got, code := impl.StepsOf(x)
	if len(got) != 256 || code != impl.ErrNone || !isStrict(got) {
		t.Errorf("StepsOf(%v) has %d, %d", x, len(got), code)
	}
}

func TestComplementsAndParts(t *testing.T) {
	for _, x := range testAlphabets() {
		got, code := impl.ComplementOf(x)
		mustBeAlphabet(t, "ComplementOf", x, got, code, refComplement(x))
		transitive, code := impl.HasTransitiveExchange(x)
		mustReport(t, "HasTransitiveExchange", x, transitive, code, refHasTransitiveExchange(x))
		for mask := range int64(1) << x.Letters {
			got, code := impl.PartOfAlphabet(x, mask)
			mustBeAlphabet(t, "PartOfAlphabet", []any{x, mask}, got, code, refPart(x, mask))
		}
		for _, mask := range []int64{-1, 1 << x.Letters, 1<<x.Letters | 1, 1 << 24, math.MaxInt64, math.MinInt64} {
			got, code := impl.PartOfAlphabet(x, mask)
			mustFailAlphabet(t, "PartOfAlphabet", []any{x, mask}, got, code, impl.ErrRange)
		}
	}
}

func TestPartsOnNoLetterAndOnAll(t *testing.T) {
	for _, x := range testAlphabets() {
		got, code := impl.PartOfAlphabet(x, 0)
		mustBeAlphabet(t, "PartOfAlphabet", x, got, code, impl.Alphabet{})
		got, code = impl.PartOfAlphabet(x, 1<<x.Letters-1)
		mustBeAlphabet(t, "PartOfAlphabet", x, got, code, x)
	}
}

func TestHasTransitiveExchange(t *testing.T) {
	cases := map[string]bool{
		"0:": true, "1:": true, "2:": true, "2: ab": true, "3:": true, "3: ab": false, "3: bc": false, "3: ac": false, "3: ab bc": true,
		"3: ab ac bc": true, "4: ab ad bc cd": true, "4: ab bc cd": false, "4: ab": false,
	}
	for text, want := range cases {
		x, _ := impl.ParseAlphabet(text)
		got, code := impl.HasTransitiveExchange(x)
		mustReport(t, "HasTransitiveExchange", text, got, code, want)
	}
}

func TestProducts(t *testing.T) {
	list := testAlphabets()
	for i := 0; i < len(list); i += 1 + i%3 {
		for k := 0; k < len(list); k += 1 + (i+k)%7 {
			x, y := list[i], list[k]
			direct, code := impl.DirectProduct(x, y)
			free, freeCode := impl.FreeProduct(x, y)
			if x.Letters+y.Letters > 8 {
				mustFailAlphabet(t, "DirectProduct", []any{x, y}, direct, code, impl.ErrLimit)
				mustFailAlphabet(t, "FreeProduct", []any{x, y}, free, freeCode, impl.ErrLimit)
			} else {
				mustBeAlphabet(t, "DirectProduct", []any{x, y}, direct, code, refProduct(x, y, false))
				mustBeAlphabet(t, "FreeProduct", []any{x, y}, free, freeCode, refProduct(x, y, true))
			}
		}
	}
}

func TestSizesOfProducts(t *testing.T) {
	for n := range 9 {
		for k := range 9 {
			x, y := alphabetWith(antichain(n)...), alphabetWith(complete(k)...)
			for _, product := range []func(x, y impl.Alphabet) (impl.Alphabet, int64){impl.DirectProduct, impl.FreeProduct} {
				got, code := product(x, y)
				if n+k > 8 {
					mustFailAlphabet(t, "a product", []int{n, k}, got, code, impl.ErrLimit)
				} else if code != impl.ErrNone || got.Letters != int64(n+k) || !refIsAlphabet(got) {
					t.Errorf("a product of %d and %d letters is %v, %d", n, k, got, code)
				}
			}
		}
	}
}

// alphabetCall is a function of chapter 2 from one alphabet, as a function whose result beside the
// code is a list, empty if the result is the zero value.
type alphabetCall struct {
	name string
	call func(x impl.Alphabet) ([]int64, int64)
}

// listed turns a function to an alphabet into one to its dependence.
func listed(call func(impl.Alphabet) (impl.Alphabet, int64)) func(impl.Alphabet) ([]int64, int64) {
	return func(x impl.Alphabet) ([]int64, int64) {
		got, code := call(x)
		if got.Letters != int64(len(got.Depends)) {
			return []int64{-1, got.Letters}, code
		}
		return got.Depends, code
	}
}

// answered turns a function to a truth value into one to a list.
func answered(call func(impl.Alphabet) (bool, int64)) func(impl.Alphabet) ([]int64, int64) {
	return func(x impl.Alphabet) ([]int64, int64) {
		got, code := call(x)
		if got {
			return []int64{1}, code
		}
		return nil, code
	}
}

// alphabetCalls returns the functions that are given an alphabet, with a and b as letters or as a
// mask, and y as the other factor of a product.
func alphabetCalls(a, b int64, y impl.Alphabet) []alphabetCall {
	return []alphabetCall{
		{"AreDependent", answered(func(x impl.Alphabet) (bool, int64) { return impl.AreDependent(x, a, b) })},
		{"AlphabetText", func(x impl.Alphabet) ([]int64, int64) {
			text, code := impl.AlphabetText(x)
			return make([]int64, len(text)), code
		}},
		{"ProcessesOf", impl.ProcessesOf}, {"StepsOf", impl.StepsOf}, {"PartsOfAlphabet", impl.PartsOfAlphabet},
		{"ComplementOf", listed(impl.ComplementOf)}, {"LeastAlphabet", listed(impl.LeastAlphabet)},
		{"PartOfAlphabet", listed(func(x impl.Alphabet) (impl.Alphabet, int64) { return impl.PartOfAlphabet(x, a) })},
		{"DirectProduct", listed(func(x impl.Alphabet) (impl.Alphabet, int64) { return impl.DirectProduct(x, y) })},
		{"DirectProduct", listed(func(x impl.Alphabet) (impl.Alphabet, int64) { return impl.DirectProduct(y, x) })},
		{"FreeProduct", listed(func(x impl.Alphabet) (impl.Alphabet, int64) { return impl.FreeProduct(x, y) })},
		{"FreeProduct", listed(func(x impl.Alphabet) (impl.Alphabet, int64) { return impl.FreeProduct(y, x) })},
		{"HasTransitiveExchange", answered(impl.HasTransitiveExchange)},
	}
}

func TestInvalidAlphabets(t *testing.T) {
	// ErrInvalid comes before ErrRange, for letters and masks that do not exist, and before ErrLimit.
	calls := slices.Concat(
		alphabetCalls(0, 0, impl.Alphabet{}),
		alphabetCalls(-1, math.MaxInt64, alphabetWith(complete(8)...)),
		alphabetCalls(1<<40, -7, alphabetWith(3, 2)),
	)
	for _, x := range notAlphabets() {
		for _, f := range calls {
			got, code := f.call(x)
			mustFail(t, f.name, x.Depends[:min(len(x.Depends), 9)], got, code, impl.ErrInvalid)
		}
	}
}

func TestLeastAlphabet(t *testing.T) {
	cases := map[string]string{
		"0:": "0:", "1:": "1:", "2:": "2:", "2: ab": "2: ab", "3: ab": "3: bc", "3: ac": "3: bc", "3: bc": "3: bc",
		"3: ac bc": "3: ab bc", "3: ab ac": "3: ab bc", "3: ab bc": "3: ab bc", "4: ab ad bc cd": "4: ab ac bd cd", "8:": "8:",
	}
	for text, want := range cases {
		x, _ := impl.ParseAlphabet(text)
		least, _ := impl.ParseAlphabet(want)
		got, code := impl.LeastAlphabet(x)
		mustBeAlphabet(t, "LeastAlphabet", text, got, code, least)
	}
	for n := range 6 {
		all := bijections(n)
		for _, x := range allAlphabetsOf(n) {
			got, code := impl.LeastAlphabet(x)
			mustBeAlphabet(t, "LeastAlphabet", x, got, code, refLeast(x, all))
		}
	}
}

func TestLeastAlphabetOfManyLetters(t *testing.T) {
	x := numbers(22)
	for n := 6; n <= 8; n++ {
		list := []impl.Alphabet{}
		for rare := 1; rare <= 5; rare++ {
			list = append(list, someAlphabet(&x, n, rare), refComplement(someAlphabet(&x, n, rare)))
		}
		if n == 8 {
			list = append(list, evenAlphabets()...)
		}
		all := bijections(n)
		for _, x := range list {
			got, code := impl.LeastAlphabet(x)
			mustBeAlphabet(t, "LeastAlphabet", x, got, code, refLeast(x, all))
		}
	}
}

func TestOneLeastFormForAllIsomorphicOnes(t *testing.T) {
	x := numbers(23)
	for _, y := range testAlphabets() {
		least, code := impl.LeastAlphabet(y)
		if code != impl.ErrNone {
			t.Fatalf("LeastAlphabet(%v): code %d", y, code)
		}
		again, code := impl.LeastAlphabet(least)
		mustBeAlphabet(t, "LeastAlphabet", least, again, code, least)
		for range 5 {
			other := alphabetWith(renamed(y.Depends, someNames(&x, len(y.Depends)))...)
			got, code := impl.LeastAlphabet(other)
			mustBeAlphabet(t, "LeastAlphabet", other, got, code, least)
		}
	}
}

// isOneOf reports whether one of the bijections makes the alphabet y of x.
func isOneOf(x, y impl.Alphabet, bijections [][]int) bool {
	return slices.ContainsFunc(bijections, func(names []int) bool { return slices.Equal(renamed(x.Depends, names), y.Depends) })
}

func TestLeastFormsTellAlphabetsApart(t *testing.T) {
	// There are 156 classes of alphabets with 6 letters: if each one is isomorphic to its least
	// form and there are so many of these, then alphabets of one class have one least form.
	all := bijections(6)
	found := map[string]bool{}
	for i, x := range allAlphabetsOf(6) {
		least, code := impl.LeastAlphabet(x)
		if code != impl.ErrNone || !refIsAlphabet(least) || slices.Compare(least.Depends, x.Depends) > 0 {
			t.Fatalf("LeastAlphabet(%v) = %v, %d", x, least, code)
		}
		if i%20 == 0 && !isOneOf(x, least, all) {
			t.Errorf("LeastAlphabet(%v) = %v, which is not isomorphic", x, least)
		}
		found[refText(least)] = true
	}
	if len(found) != 156 {
		t.Errorf("there are %d least forms with 6 letters", len(found))
	}
}

func TestAllAlphabets(t *testing.T) {
	for n, size := range []int{1, 1, 2, 4, 11, 34} {
		all := bijections(n)
		var want []impl.Alphabet
		for _, x := range allAlphabetsOf(n) {
			if areEqual(x, refLeast(x, all)) {
				want = append(want, x)
			}
		}
		slices.SortFunc(want, func(x, y impl.Alphabet) int { return slices.Compare(x.Depends, y.Depends) })
		got, code := impl.AllAlphabets(int64(n))
		if code != impl.ErrNone || len(got) != size || !slices.EqualFunc(got, want, areEqual) {
			t.Errorf("AllAlphabets(%d) = %v, %d, and not %v", n, got, code, want)
		}
	}
	for _, n := range []int64{-1, 6, 7, 8, 9, 24, 1 << 32, math.MinInt64, math.MaxInt64} {
		if got, code := impl.AllAlphabets(n); len(got) != 0 || code != impl.ErrRange {
			t.Errorf("AllAlphabets(%d) = %v, %d", n, got, code)
		}
	}
}

func TestPromise2(t *testing.T) {
	list := testAlphabets()
	least := make([]impl.Alphabet, len(list))
	for i, x := range list {
		text, code := impl.AlphabetText(x)
		if code != impl.ErrNone {
			t.Fatalf("AlphabetText(%v): code %d", x, code)
		}
		got, code := impl.ParseAlphabet(text)
		mustBeAlphabet(t, "ParseAlphabet", quoted(text), got, code, x)
		if processes, code := impl.ProcessesOf(x); code == impl.ErrNone {
			got, code = impl.AlphabetOfProcesses(x.Letters, processes)
			mustBeAlphabet(t, "AlphabetOfProcesses", processes, got, code, x)
		}
		least[i], code = impl.LeastAlphabet(x)
		if code != impl.ErrNone {
			t.Fatalf("LeastAlphabet(%v): code %d", x, code)
		}
	}
	for n := range 6 {
		all := bijections(n)
		for i, x := range list {
			for k := 0; k < i; k++ {
				if x.Letters == int64(n) && list[k].Letters == int64(n) && isOneOf(x, list[k], all) != areEqual(least[i], least[k]) {
					t.Errorf("the least forms of %v and %v are %v and %v", x, list[k], least[i], least[k])
				}
			}
		}
	}
}

// spacious returns a copy of a list behind which there is capacity with marks, and a function that
// reports whether list and marks are as they were.
func spacious(list []int64) ([]int64, func() bool) {
	full := append(slices.Clone(list), -71, -72, -73, -74, -75, -76, -77, -78, -79, -80)
	before := slices.Clone(full)
	return full[:len(list)], func() bool { return slices.Equal(full, before) }
}

func TestAlphabetsShareNoMemory(t *testing.T) {
	for _, x := range []impl.Alphabet{{}, alphabetWith(1), alphabetWith(3, 3), alphabetWith(5, 6, 7), alphabetWith(11, 7, 14, 13)} {
		depends, isKept := spacious(x.Depends)
		x.Depends = depends
		square, isSquareKept := spacious([]int64{11, 7, 14, 13})
		for _, f := range alphabetCalls(0, 0, alphabetWith(square...)) {
			first, code := f.call(x)
			want := slices.Clone(first)
			for i := range first[:cap(first)] {
				first[:cap(first)][i] = -5
			}
			if !isKept() || !isSquareKept() {
				t.Fatalf("%s(%v) changes or shares an argument", f.name, x)
			}
			again, codeAgain := f.call(x)
			if code != codeAgain || !slices.Equal(again, want) {
				t.Errorf("%s(%v) = %v, %d the second time", f.name, x, again, codeAgain)
			}
		}
		if !impl.IsAlphabet(x) || !isKept() {
			t.Errorf("IsAlphabet changes %v", x)
		}
	}
}

func TestListsOfProcessesShareNoMemory(t *testing.T) {
	for _, list := range [][]int64{nil, {7}, {0, 0, 0}, {3, 6, 4}} {
		list, isKept := spacious(list)
		x, _ := impl.AlphabetOfProcesses(3, list)
		domains, _ := impl.DomainsOf(3, list)
		for _, result := range [][]int64{x.Depends, domains} {
			for i := range result[:cap(result)] {
				result[:cap(result)][i] = -5
			}
		}
		if !isKept() {
			t.Errorf("AlphabetOfProcesses or DomainsOf(%v) changes or shares its argument", list)
		}
	}
}

func TestAlphabetsOfOneListShareNoMemory(t *testing.T) {
	for n := range int64(6) {
		first, _ := impl.AllAlphabets(n)
		for i := range first {
			want, code := impl.AllAlphabets(n)
			if code != impl.ErrNone || !slices.EqualFunc(first[i:], want[i:], areEqual) {
				t.Fatalf("AllAlphabets(%d) = %v, %d behind a change of %d others", n, want, code, i)
			}
			depends := first[i].Depends
			for k := range depends[:cap(depends)] {
				depends[:cap(depends)][k] = -5
			}
		}
	}
}
