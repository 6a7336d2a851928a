package tests

import (
	"math"
	"math/big"
	"slices"
	"testing"

	"loop.example/g01094/impl"
)

// lengthCall is a function of chapter 6 from an alphabet and a number of letters, as a function to
// lists, none if the result beside the code is the zero value.
type lengthCall struct {
	name string
	call func(x impl.Alphabet, n int64) ([][]int64, int64)
}

// lengthCalls returns the functions that are given an alphabet and a number of letters, with a mask
// and a rank.
func lengthCalls(mask, rank int64) []lengthCall {
	// A word of one letter stands for the number, which need not be one of a letter.
	list := func(call func(x impl.Alphabet, n int64) ([]int64, int64)) func(impl.Alphabet, int64) ([][]int64, int64) {
		return func(x impl.Alphabet, n int64) ([][]int64, int64) {
			return oneList(func(x impl.Alphabet, w []int64) ([]int64, int64) { return call(x, w[0]) })(x, []int64{n})
		}
	}
	number := func(call func(x impl.Alphabet, n int64) (int64, int64)) func(impl.Alphabet, int64) ([][]int64, int64) {
		return func(x impl.Alphabet, n int64) ([][]int64, int64) {
			return oneNumber(func(x impl.Alphabet, w []int64) (int64, int64) { return call(x, w[0]) })(x, []int64{n})
		}
	}
	return []lengthCall{
		{"CountTraces", number(impl.CountTraces)}, {"CountByHeight", list(impl.CountByHeight)}, {"TracesOfLength", impl.TracesOfLength},
		{"CountByFirst", number(func(x impl.Alphabet, n int64) (int64, int64) { return impl.CountByFirst(x, n, mask) })},
		{"TraceAtRank", list(func(x impl.Alphabet, n int64) ([]int64, int64) { return impl.TraceAtRank(x, n, rank) })},
	}
}

// countingWordCalls returns the functions that are given an alphabet and a list, which for
// CountOfContent is a content.
func countingWordCalls() []wordCall {
	return []wordCall{
		{"RankOfTrace", oneNumber(impl.RankOfTrace)}, {"NextTrace", oneList(impl.NextTrace)}, {"CountOfContent", oneNumber(impl.CountOfContent)},
	}
}

// mustCount reports an error unless a call returned this number and ErrNone, or another code alone.
func mustCount(t *testing.T, name string, argument any, got, code, want, expected int64) {
	t.Helper()
	if expected != impl.ErrNone {
		want = 0
	}
	if code != expected || got != want {
		t.Errorf("%s(%v) = %d, %d, and not %d, %d", name, argument, got, code, want, expected)
	}
}

func TestExamplesOfCounting(t *testing.T) {
	x := square()
	got, code := impl.CliquePolynomial(x)
	mustBe(t, "CliquePolynomial", nil, got, code, []int64{1, -4, 2})
	got, code = impl.InverseSeries([]int64{1, -4, 2}, 3)
	mustBe(t, "InverseSeries", nil, got, code, []int64{1, 4, 14, 48})
	n, code := impl.CountTraces(x, 3)
	mustBeNumber(t, "CountTraces", 3, n, code, 48)
	got, code = impl.CountByHeight(x, 2)
	mustBe(t, "CountByHeight", nil, got, code, []int64{0, 2, 12})
	n, code = impl.CountByFirst(x, 2, 5)
	mustBeNumber(t, "CountByFirst", 5, n, code, 1)
	n, code = impl.CountByFirst(x, 2, 1)
	mustBeNumber(t, "CountByFirst", 1, n, code, 3)
	n, code = impl.CountOfContent(x, []int64{1, 1, 1, 0})
	mustBeNumber(t, "CountOfContent", "abc", n, code, 4)
	lists, code := impl.TracesOfLength(x, 2)
	mustBeLists(t, "TracesOfLength", 2, lists, code, words("aa", "ab", "ac", "ad", "ba", "bb", "bc", "bd", "cb", "cc", "cd", "da", "dc", "dd"))
	n, code = impl.RankOfTrace(x, word("ca"))
	mustBeNumber(t, "RankOfTrace", "ca", n, code, 2)
	got, code = impl.TraceAtRank(x, 2, 2)
	mustBe(t, "TraceAtRank", nil, got, code, word("ac"))
	got, code = impl.NextTrace(x, word("ac"))
	mustBe(t, "NextTrace", nil, got, code, word("ad"))
}

func TestCliquePolynomials(t *testing.T) {
	path := alphabetWhere(8, func(i, k int) bool { return k-i == 1 })
	cases := []struct {
		x    impl.Alphabet
		want []int64
	}{
		{impl.Alphabet{}, []int64{1}}, {alphabetWith(1), []int64{1, -1}}, {alphabetWith(1, 2), []int64{1, -2, 1}}, {alphabetWith(3, 3), []int64{1, -2}},
		{alphabetWith(antichain(3)...), []int64{1, -3, 3, -1}}, {alphabetWith(antichain(7)...), []int64{1, -7, 21, -35, 35, -21, 7, -1}},
		{alphabetWith(antichain(8)...), []int64{1, -8, 28, -56, 70, -56, 28, -8, 1}}, {alphabetWith(complete(8)...), []int64{1, -8}},
		{path, []int64{1, -8, 21, -20, 5}}, {groups(true, 2, 2, 2, 2), []int64{1, -8, 24, -32, 16}}, {groups(false, 2, 2, 2, 2), []int64{1, -8, 4}},
		{alphabetWith(3, 7, 6), []int64{1, -3, 1}},
	}
	for _, c := range cases {
		got, code := impl.CliquePolynomial(c.x)
		mustBe(t, "CliquePolynomial of "+key(c.x), nil, got, code, c.want)
	}
	for _, x := range testAlphabets() {
		got, code := impl.CliquePolynomial(x)
		mustBe(t, "CliquePolynomial of "+key(x), nil, got, code, refPolynomial(x))
	}
}

// checkInverse holds InverseSeries against the definition for a list that has an inverse, and returns
// the code.
func checkInverse(t *testing.T, p []int64, n int) int64 {
	t.Helper()
	var want []int64
	expected := int64(impl.ErrNone)
	for _, number := range refInverse(p, n) {
		if new(big.Int).Abs(number).Cmp(big.NewInt(impl.MaxCount)) > 0 {
			expected = impl.ErrLimit
		}
		want = append(want, number.Int64())
	}
	got, code := impl.InverseSeries(p, int64(n))
	mustBeOrFail(t, "InverseSeries", []any{p[:min(len(p), 30)], n}, got, code, want, expected)
	return code
}

func TestInversesOfAllShortLists(t *testing.T) {
	for length := range 5 {
		for _, list := range allWords(5, length) {
			p := []int64{1}
			for _, a := range list {
				p = append(p, a-2)
			}
			for _, n := range []int{0, 1, 2, 3, 4, 5, 6, 12, 23, 24} {
				checkInverse(t, p, n)
			}
		}
	}
}

func TestInversesOfSomeLists(t *testing.T) {
	codes := map[int64]int{}
	x := numbers(90)
	for i := range 3000 {
		p := []int64{1}
		most := []int{1, 2, 3, 5, 20, 1000}[i%6]
		for range x.below(32) {
			p = append(p, int64(x.below(2*most+1)-most))
		}
		for range 4 {
			codes[checkInverse(t, p, x.below(25))]++
		}
		checkInverse(t, p, len(p)%25)
	}
	if codes[impl.ErrNone] < 1000 || codes[impl.ErrLimit] < 1000 {
		t.Errorf("the inverses have the codes %v", codes)
	}
}

// someProduct returns the coefficients of a product of polynomials with degrees 1 and 2 that begin
// with 1 and have small coefficients, as many of them as keep it in -1000..1000.
func someProduct(x *numbers) []int64 {
	product := []int64{1}
	for {
		factor := []int64{1, int64(x.below(13) - 6), int64(x.below(19) - 9)}[:2+x.below(2)]
		next := make([]int64, len(product)+len(factor)-1)
		for i, c := range product {
			for k, d := range factor {
				next[i+k] += c * d
			}
		}
		if slices.Min(next) < -1000 || slices.Max(next) > 1000 {
			return product
		}
		product = next
	}
}

func TestInversesOfProducts(t *testing.T) {
	// Their inverses have great elements that come from much greater products.
	codes := map[int64]int{}
	x := numbers(95)
	for range 1000 {
		p := someProduct(&x)
		for n := 12; n <= 24; n++ {
			codes[checkInverse(t, p, n)]++
		}
	}
	if codes[impl.ErrNone] < 1000 || codes[impl.ErrLimit] < 1000 {
		t.Errorf("the inverses have the codes %v", codes)
	}
}

func TestInversesOfAboutMaxCount(t *testing.T) {
	cases := []struct {
		p    []int64
		n    int64
		want []int64
		code int64
	}{
		{[]int64{1}, 0, []int64{1}, 0}, {[]int64{1}, 3, []int64{1, 0, 0, 0}, 0}, {[]int64{1, -1000}, 0, []int64{1}, 0}, {[]int64{1, 0, 0, 7}, 2, []int64{1, 0, 0}, 0},
		{[]int64{1, -1}, 24, slices.Repeat([]int64{1}, 25), 0}, {[]int64{1, 1}, 4, []int64{1, -1, 1, -1, 1}, 0}, {[]int64{1, -2, 1}, 4, []int64{1, 2, 3, 4, 5}, 0},
		{[]int64{1, 2, 3, 4, 5}, 2, []int64{1, -2, 1}, 0}, {[]int64{1, 0, 0, -5}, 7, []int64{1, 0, 0, 5, 0, 0, 25, 0}, 0},
		// The last elements are MaxCount and -MaxCount, one less and one more.
		{[]int64{1, -1000}, 5, []int64{1, 1000, 1e6, 1e9, 1e12, 1e15}, 0}, {[]int64{1, 1000}, 5, []int64{1, -1000, 1e6, -1e9, 1e12, -1e15}, 0},
		{[]int64{1, -1000, 0, 0, 0, 1}, 5, []int64{1, 1000, 1e6, 1e9, 1e12, 1e15 - 1}, 0}, {[]int64{1, 1000, 0, 0, 0, -1}, 5, []int64{1, -1000, 1e6, -1e9, 1e12, -1e15 + 1}, 0},
		{[]int64{1, -1000, 0, 0, 0, -1}, 5, nil, impl.ErrLimit}, {[]int64{1, 1000, 0, 0, 0, 1}, 5, nil, impl.ErrLimit}, {[]int64{1, -1000, 0, 0, 0, -1000}, 5, nil, impl.ErrLimit},
		{[]int64{1, -1000, 0, 0, -1}, 5, nil, impl.ErrLimit}, {[]int64{1, 1000, -1}, 5, nil, impl.ErrLimit}, {[]int64{1, 1000, 1}, 5, []int64{1, -1000, 999999, -999998000, 999997000001, -999996000003000}, 0},
		{[]int64{1, -1000, -1000}, 4, []int64{1, 1000, 1001000, 1002000000, 1003001000000}, 0}, {[]int64{1, -1000, -1000}, 5, nil, impl.ErrLimit},
		{[]int64{1, 0, -1000}, 10, []int64{1, 0, 1000, 0, 1e6, 0, 1e9, 0, 1e12, 0, 1e15}, 0}, {[]int64{1, 0, -1000}, 11, []int64{1, 0, 1000, 0, 1e6, 0, 1e9, 0, 1e12, 0, 1e15, 0}, 0},
		{[]int64{1, 0, -1000}, 12, nil, impl.ErrLimit}, {[]int64{1, 0, 1000}, 12, nil, impl.ErrLimit}, {[]int64{1, 0, 0, 0, 1000}, 23, nil, 0}, {[]int64{1, 0, 0, 0, 1000}, 24, nil, impl.ErrLimit},
		// The last elements are sums of numbers that are much greater than MaxCount.
		{[]int64{1, -12, 41, 32, -450, 748, 0, -576}, 21, nil, 0}, {[]int64{1, -9, 17, 71, -366, 632, -483, 164, -133, 120, 190, -348, 144}, 23, nil, 0},
		{[]int64{1, 7, -36, -452, -42, -409, 983, -1000, 900, -1000, -874, 1000, -1000, 1000, -1000, 1000, -1000, 1000, -298}, 18, nil, 0},
		{[]int64{1, 7, -36, -452, -42, -409, 983, -1000, 900, -1000, -874, 1000, -1000, 1000, -1000, 1000, -1000, 1000, -298}, 19, nil, impl.ErrLimit},
		// In 64 bits the last of these elements would be 0: they are powers of 1000 with exponents from 22 on.
		{[]int64{1, -1000}, 6, nil, impl.ErrLimit}, {[]int64{1, -1000}, 22, nil, impl.ErrLimit}, {[]int64{1, -1000}, 24, nil, impl.ErrLimit}, {[]int64{1, 1000}, 24, nil, impl.ErrLimit},
		{[]int64{1, -1000, 1000, -1000, 1000}, 24, nil, impl.ErrLimit}, {slices.Concat([]int64{1}, slices.Repeat([]int64{-1000}, 24)), 24, nil, impl.ErrLimit},
		{slices.Concat([]int64{1}, slices.Repeat([]int64{1000}, 40)), 24, nil, impl.ErrLimit}, {slices.Concat([]int64{1}, make([]int64, 23), []int64{-1000}), 24, nil, 0},
	}
	for _, c := range cases {
		if code := checkInverse(t, c.p, int(c.n)); code != c.code {
			t.Errorf("InverseSeries(%v, %d) has the code %d", c.p, c.n, code)
		}
		if got, _ := impl.InverseSeries(c.p, c.n); c.want != nil && !slices.Equal(got, c.want) {
			t.Errorf("InverseSeries(%v, %d) = %v", c.p, c.n, got)
		}
	}
}

func TestErrorsOfInverseSeries(t *testing.T) {
	cases := []struct {
		p    []int64
		n    int64
		code int64
	}{
		{nil, 0, impl.ErrState}, {nil, 24, impl.ErrState}, {[]int64{}, 3, impl.ErrState}, {[]int64{0}, 0, impl.ErrState}, {[]int64{2}, 24, impl.ErrState}, {[]int64{-1}, 1, impl.ErrState},
		{[]int64{0, 1}, 1, impl.ErrState}, {[]int64{1000}, 0, impl.ErrState}, {[]int64{-1000, 1}, 0, impl.ErrState}, {[]int64{2, -1000}, 24, impl.ErrState}, {make([]int64, 100000), 24, impl.ErrState},
		{[]int64{1}, -1, impl.ErrRange}, {[]int64{1}, 25, impl.ErrRange}, {[]int64{1}, math.MaxInt64, impl.ErrRange}, {[]int64{1}, math.MinInt64, impl.ErrRange}, {[]int64{1}, 1 << 32, impl.ErrRange},
		{[]int64{1, 1001}, 0, impl.ErrRange}, {[]int64{1, -1001}, 0, impl.ErrRange}, {[]int64{1, 1001}, 24, impl.ErrRange}, {[]int64{1, 0, 0, -1001}, 1, impl.ErrRange}, {[]int64{1, math.MinInt64}, 1, impl.ErrRange},
		{[]int64{1, math.MaxInt64}, 1, impl.ErrRange}, {append(make([]int64, 100000), 1001), 24, impl.ErrRange}, {append([]int64{1}, append(make([]int64, 100), -1001)...), 24, impl.ErrRange},
		// ErrRange comes before ErrState, and both before ErrLimit.
		{nil, -1, impl.ErrRange}, {nil, 25, impl.ErrRange}, {[]int64{2}, 25, impl.ErrRange}, {[]int64{1001}, 0, impl.ErrRange}, {[]int64{-1001}, 5, impl.ErrRange}, {[]int64{math.MinInt64}, 5, impl.ErrRange},
		{[]int64{2, 1001}, 0, impl.ErrRange}, {[]int64{0, 0, -1001}, 0, impl.ErrRange}, {[]int64{1, -1000, 1001}, 24, impl.ErrRange}, {[]int64{1, -1000}, 25, impl.ErrRange}, {[]int64{0, -1000}, 24, impl.ErrState},
		{[]int64{1, -1000, 0, 0, 0, 0, 0, 0, 1001}, 6, impl.ErrRange},
	}
	for _, c := range cases {
		got, code := impl.InverseSeries(c.p, c.n)
		mustFail(t, "InverseSeries", append(slices.Clone(c.p[:min(len(c.p), 9)]), c.n), got, code, c.code)
	}
}

// check holds all functions of chapter 6 but the first two against the list of the traces with one
// length. The words of a trace that are tried are given by its normal form.
func (l listing) check(t *testing.T, wordsOf func(normal []int64) [][]int64) {
	t.Helper()
	n, size, name := int64(l.length), int64(len(l.normals)), key(l.x)+key(l.length)
	number, code := impl.CountTraces(l.x, n)
	mustBeNumber(t, "CountTraces", name, number, code, size)
	got, code := impl.CountByHeight(l.x, n)
	mustBe(t, "CountByHeight of "+name, nil, got, code, l.heights)
	for mask := range int64(1) << l.x.Letters {
		number, code = impl.CountByFirst(l.x, n, mask)
		mustBeNumber(t, "CountByFirst of "+name, mask, number, code, l.firsts[key(mask)])
	}
	for _, content := range contentsWith(int(l.x.Letters), l.length) {
		number, code = impl.CountOfContent(l.x, content)
		mustBeNumber(t, "CountOfContent of "+name, content, number, code, l.contents[key(content)])
	}
	lists, code := impl.TracesOfLength(l.x, n)
	if size > impl.MaxClass {
		mustFailLists(t, "TracesOfLength", name, lists, code, impl.ErrLimit)
	} else {
		mustBeLists(t, "TracesOfLength", name, lists, code, l.normals)
	}
	for rank, w := range l.normals {
		got, code = impl.TraceAtRank(l.x, n, int64(rank))
		mustBe(t, "TraceAtRank of "+name, []int64{int64(rank)}, got, code, w)
		for _, v := range wordsOf(w) {
			l.checkWord(t, v, rank)
		}
	}
	for _, rank := range []int64{-1, size, size + 1, math.MinInt64, math.MaxInt64} {
		got, code = impl.TraceAtRank(l.x, n, rank)
		mustFail(t, "TraceAtRank of "+name, []int64{rank}, got, code, impl.ErrRange)
	}
}

// checkWord holds RankOfTrace and NextTrace against the list on a word of the trace with a rank.
func (l listing) checkWord(t *testing.T, w []int64, rank int) {
	t.Helper()
	number, code := impl.RankOfTrace(l.x, w)
	mustBeNumber(t, "RankOfTrace of "+key(l.x), w, number, code, int64(rank))
	got, code := impl.NextTrace(l.x, w)
	if rank+1 < len(l.normals) {
		mustBe(t, "NextTrace of "+key(l.x), w, got, code, l.normals[rank+1])
	} else {
		mustFail(t, "NextTrace of "+key(l.x), w, got, code, impl.ErrNotFound)
	}
}

func TestCountsOfAllShortTraces(t *testing.T) {
	for _, x := range smallAlphabets() {
		for length := range longestFor(x.Letters) + 1 {
			normals := normalsOfClasses(x, length)
			l := listingOf(x, length, normals)
			l.check(t, func(w []int64) [][]int64 { return refClass(x, w, 1<<20) })
			if length > 0 && !areEqualLists(normals, longerNormals(x, normalsOfClasses(x, length-1))) {
				t.Fatalf("the normal forms of %v with %d letters do not come from shorter ones", x, length)
			}
		}
	}
}

// someListings calls a function with the traces of alphabets with all lengths with which there are
// not more than a limit.
func someListings(list []impl.Alphabet, limit int, call func(l listing)) {
	for _, x := range list {
		normals := [][]int64{{}}
		for length := 0; length <= 24 && len(normals) <= limit; length++ {
			call(listingOf(x, length, normals))
			normals = longerNormals(x, normals)
		}
	}
}

func TestCountsOfListedTraces(t *testing.T) {
	x := numbers(91)
	longest := 0
	someListings(testAlphabets(), 100, func(l listing) {
		longest = max(longest, l.length)
		l.check(t, func(w []int64) [][]int64 { return [][]int64{w, exchanged(&x, l.x, w, 12)} })
	})
	if longest != 24 {
		t.Errorf("the longest traces have %d letters", longest)
	}
	few := []impl.Alphabet{alphabetWith(antichain(3)...), alphabetWith(1, 6, 6), alphabetWith(3, 7, 6), alphabetWith(antichain(5)...), groups(true, 2, 3), square()}
	someListings(few, 1300, func(l listing) {
		l.check(t, func(w []int64) [][]int64 { return [][]int64{exchanged(&x, l.x, w, 30)} })
	})
}

func TestCountsOfNoLetters(t *testing.T) {
	for _, x := range []impl.Alphabet{{}, {Depends: []int64{}}} {
		for length := range 25 {
			normals := [][]int64{{}}
			if length > 0 {
				normals = nil
			}
			listingOf(x, length, normals).check(t, func(w []int64) [][]int64 { return [][]int64{nil, {}} })
		}
		number, code := impl.CountOfContent(x, nil)
		mustBeNumber(t, "CountOfContent", x, number, code, 1)
	}
}

func TestCountsOfOneLetter(t *testing.T) {
	for length := range 25 {
		l := listingOf(alphabetWith(1), length, [][]int64{make([]int64, length)})
		l.check(t, func(w []int64) [][]int64 { return [][]int64{w} })
	}
}

func TestNumbersOfLetters(t *testing.T) {
	wide, narrow := alphabetWith(antichain(8)...), alphabetWith(complete(8)...)
	// With independent letters, traces are contents, and the height is the greatest number in it.
	choices, power := int64(1), int64(1)
	for n := int64(0); n <= 24; n++ {
		number, code := impl.CountTraces(wide, n)
		mustBeNumber(t, "CountTraces of independent letters", n, number, code, choices)
		number, code = impl.CountByFirst(wide, n, 1<<6)
		mustBeNumber(t, "CountByFirst of independent letters", n, number, code, min(n, 1))
		number, code = impl.CountByFirst(wide, n, 1<<6|1)
		mustBeNumber(t, "CountByFirst of independent letters", n, number, code, max(n-1, 0))
		heights, code := impl.CountByHeight(wide, n)
		mustList(t, "CountByHeight", heights, code)
		if len(heights) != int(n)+1 || n > 0 && (heights[0] != 0 || heights[n] != 8 || heights[(n+7)/8-1] != 0 || heights[(n+7)/8] == 0) {
			t.Errorf("CountByHeight of independent letters and %d = %v", n, heights)
		}
		choices = choices * (n + 8) / (n + 1)
		number, code = impl.CountTraces(narrow, n)
		mustCount(t, "CountTraces of dependent letters", n, number, code, power, codeIf(n <= 16, impl.ErrLimit))
		if n > 16 {
			continue
		}
		heights, code = impl.CountByHeight(narrow, n)
		mustBe(t, "CountByHeight of dependent letters", []int64{n}, heights, code, append(make([]int64, n), power))
		number, code = impl.CountByFirst(narrow, n, 1<<6)
		mustBeNumber(t, "CountByFirst of dependent letters", n, number, code, power/8)
		power *= 8
	}
}

// checkNumbers holds the functions that count the traces with a length against the numbers by their
// steps, and returns the code.
func checkNumbers(t *testing.T, x impl.Alphabet, n int, byHeight [25]bySize, byFirst []bySize) int64 {
	t.Helper()
	total := refTotal(byFirst, n)
	expected := codeIf(total <= impl.MaxCount, impl.ErrLimit)
	number, code := impl.CountTraces(x, int64(n))
	mustCount(t, "CountTraces", []any{x, n}, number, code, total, expected)
	var heights []int64
	for height := range n + 1 {
		heights = append(heights, byHeight[height][n])
	}
	got, code := impl.CountByHeight(x, int64(n))
	mustBeOrFail(t, "CountByHeight", []any{x, n}, got, code, heights, expected)
	for mask, numbers := range byFirst {
		number, code = impl.CountByFirst(x, int64(n), int64(mask))
		mustCount(t, "CountByFirst", []any{x, n, mask}, number, code, numbers[n], expected)
	}
	return expected
}

func TestNumbersOfManyTraces(t *testing.T) {
	codes := map[int64]int{}
	for i, x := range testAlphabets() {
		byHeight, byFirst := refByHeight(x), refByFirst(x)
		for n := range 25 {
			// Of most alphabets with many letters only some lengths.
			if x.Letters < 5 || i < len(evenAlphabets()) || (i+n)%6 == 0 {
				codes[checkNumbers(t, x, n, byHeight, byFirst)]++
			}
		}
	}
	if codes[impl.ErrNone] < 1000 || codes[impl.ErrLimit] < 100 {
		t.Errorf("the numbers have the codes %v", codes)
	}
}

// manyTraces is an alphabet with a number of letters with which there are very many traces, and how
// many, or 0 where this is too great.
type manyTraces struct {
	x     impl.Alphabet
	n     int64
	total int64
}

// aboutMaxCount returns alphabets and lengths with at most MaxCount traces. Of all alphabets and
// lengths the first one comes nearest: none has exactly so many, as a search through all has shown.
func aboutMaxCount() []manyTraces {
	return []manyTraces{
		{alphabetWith(3, 7, 30, 60, 60, 56), 24, 998574094255041}, {alphabetWith(complete(8)...), 16, 1 << 48}, {groups(true, 2, 2, 2, 2), 24, 49073356800},
		{alphabetWhere(8, func(i, k int) bool { return k-i == 1 }), 24, 165605867248465},
	}
}

// overMaxCount returns alphabets and lengths with more than MaxCount traces, the nearest ones of all
// first.
func overMaxCount() []manyTraces {
	return []manyTraces{
		{alphabetWith(1, 2, 12, 12, 240, 240, 240, 240), 24, 1000799850084589}, {alphabetWith(complete(8)...), 17, 1 << 51}, {alphabetWith(complete(8)...), 24, 0},
		{alphabetWith(complete(5)...), 22, 2384185791015625}, {alphabetWith(complete(7)...), 24, 0}, {groups(false, 1, 7), 24, 0},
	}
}

func TestNumbersOfAboutMaxCount(t *testing.T) {
	for _, c := range aboutMaxCount() {
		if total := refTotal(refByFirst(c.x), int(c.n)); total != c.total {
			t.Errorf("%v has %d traces with %d letters", c.x, total, c.n)
		}
		number, code := impl.CountTraces(c.x, c.n)
		mustBeNumber(t, "CountTraces", c.x, number, code, c.total)
		lists, code := impl.TracesOfLength(c.x, c.n)
		mustFailLists(t, "TracesOfLength", c.x, lists, code, impl.ErrLimit)
		first, code := impl.TraceAtRank(c.x, c.n, 0)
		mustBe(t, "TraceAtRank of "+key(c.x), []int64{0}, first, code, make([]int64, c.n))
		last, code := impl.TraceAtRank(c.x, c.n, c.total-1)
		mustBe(t, "TraceAtRank of "+key(c.x), []int64{c.total - 1}, last, code, refLast(c.x, int(c.n)))
		for _, rank := range []int64{-1, c.total, c.total + 1, impl.MaxCount, math.MaxInt64, math.MinInt64} {
			got, code := impl.TraceAtRank(c.x, c.n, rank)
			mustFail(t, "TraceAtRank of "+key(c.x), []int64{rank}, got, code, impl.ErrRange)
		}
	}
	for _, c := range overMaxCount() {
		series := refInverse(refPolynomial(c.x), int(c.n))
		if total := series[c.n]; c.total > 0 && total.Cmp(big.NewInt(c.total)) != 0 || total.Cmp(big.NewInt(impl.MaxCount)) <= 0 {
			t.Errorf("%v has %v traces with %d letters", c.x, total, c.n)
		}
		// ErrLimit is returned also where the result itself would be small, and ahead of ErrRange for a rank.
		for mask := range int64(1) << c.x.Letters {
			number, code := impl.CountByFirst(c.x, c.n, mask)
			mustCount(t, "CountByFirst", []any{c.x, mask}, number, code, 0, impl.ErrLimit)
		}
		for _, rank := range []int64{0, 1, -1, impl.MaxCount - 1, impl.MaxCount, c.total - 1, c.total, math.MaxInt64, math.MinInt64} {
			for _, f := range lengthCalls(0, rank) {
				got, code := f.call(c.x, c.n)
				mustFailLists(t, f.name, rank, got, code, impl.ErrLimit)
			}
		}
		for a := range c.x.Letters {
			w := slices.Repeat([]int64{a}, int(c.n))
			number, code := impl.RankOfTrace(c.x, w)
			mustCount(t, "RankOfTrace", w, number, code, 0, impl.ErrLimit)
			got, code := impl.NextTrace(c.x, w)
			mustBeOrFail(t, "NextTrace", []any{c.x, w}, got, code, refNextNormal(c.x, w), codeIf(refNextNormal(c.x, w) != nil, no))
			content := make([]int64, c.x.Letters)
			content[a] = c.n
			number, code = impl.CountOfContent(c.x, content)
			mustBeNumber(t, "CountOfContent", content, number, code, 1)
		}
	}
}

func TestListsOfAboutMaxClass(t *testing.T) {
	cases := []struct {
		x    impl.Alphabet
		n    int64
		size int
	}{
		{alphabetWith(3, 7, 30, 28, 28), 5, 1000}, {alphabetWith(3, 15, 14, 14, 112, 240, 240, 224), 4, 999}, {groups(true, 1, 3, 4), 4, 1001}, {alphabetWith(antichain(5)...), 10, 1001}, {alphabetWith(complete(2)...), 9, 512}, {alphabetWith(complete(2)...), 10, 1024},
		{alphabetWith(antichain(8)...), 4, 330}, {alphabetWith(antichain(8)...), 5, 792}, {alphabetWith(antichain(8)...), 6, 1716}, {alphabetWith(complete(8)...), 3, 512}, {alphabetWith(complete(8)...), 4, 4096},
		{alphabetWith(antichain(3)...), 24, 325}, {alphabetWith(1, 2), 24, 25},
	}
	for _, c := range cases {
		normals := [][]int64{{}}
		for range c.n {
			normals = longerNormals(c.x, normals)
		}
		if len(normals) != c.size {
			t.Errorf("%v has %d traces with %d letters", c.x, len(normals), c.n)
		}
		got, code := impl.TracesOfLength(c.x, c.n)
		if c.size > impl.MaxClass {
			mustFailLists(t, "TracesOfLength", c, got, code, impl.ErrLimit)
		} else {
			mustBeLists(t, "TracesOfLength", c, got, code, normals)
		}
	}
}

func TestContents(t *testing.T) {
	wide, narrow := alphabetWith(antichain(8)...), alphabetWith(complete(8)...)
	limit := int64(impl.ErrLimit)
	cases := []struct {
		x       impl.Alphabet
		content []int64
		want    int64
		code    int64
	}{
		{wide, []int64{3, 3, 3, 3, 3, 3, 3, 3}, 1, 0}, {wide, make([]int64, 8), 1, 0}, {wide, []int64{0, 0, 0, 0, 0, 0, 0, 24}, 1, 0}, {wide, []int64{1, 2, 3, 4, 5, 4, 3, 2}, 1, 0},
		{narrow, make([]int64, 8), 1, 0}, {narrow, []int64{0, 24, 0, 0, 0, 0, 0, 0}, 1, 0}, {narrow, []int64{23, 0, 0, 0, 0, 0, 0, 1}, 24, 0}, {narrow, []int64{12, 0, 0, 12, 0, 0, 0, 0}, 2704156, 0},
		{narrow, []int64{1, 1, 1, 1, 1, 1, 1, 1}, 40320, 0}, {narrow, []int64{2, 2, 2, 2, 2, 2, 2, 2}, 81729648000, 0}, {narrow, []int64{3, 3, 3, 3, 3, 3, 3, 3}, 369398958888960000, limit},
		{groups(true, 4, 4), []int64{3, 3, 3, 3, 3, 3, 3, 3}, 369600 * 369600, 0}, {groups(true, 2, 2, 2, 2), []int64{3, 3, 3, 3, 3, 3, 3, 3}, 160000, 0}, {groups(true, 1, 7), []int64{24, 0, 0, 0, 0, 0, 0, 0}, 1, 0},
		{square(), []int64{6, 6, 6, 6}, 57440496036, 0}, {square(), []int64{0, 0, 0, 0}, 1, 0}, {square(), []int64{12, 12, 0, 0}, 2704156, 0}, {square(), []int64{12, 0, 12, 0}, 1, 0},
		{alphabetWith(3, 7, 6), []int64{1, 1, 1}, 4, 0}, {alphabetWith(3, 7, 6), []int64{8, 8, 8}, 165636900, 0}, {alphabetWith(1), []int64{24}, 1, 0},
		// The nearest numbers to MaxCount that a search found, on both sides.
		{alphabetWith(15, 63, 127, 255, 190, 254, 108, 184), []int64{5, 4, 3, 3, 2, 4, 2, 1}, 999916837920000, 0}, {alphabetWith(15, 63, 215, 235, 246, 250, 124, 188), []int64{2, 4, 2, 3, 2, 5, 4, 2}, 999309740897160, 0},
		{alphabetWith(31, 227, 237, 253, 249, 254, 254, 254), []int64{0, 4, 5, 3, 1, 4, 4, 3}, 1000949809860000, limit}, {alphabetWith(15, 119, 255, 189, 126, 254, 246, 236), []int64{3, 2, 3, 2, 1, 5, 4, 4}, 1003331320992000, limit},
	}
	for _, c := range cases {
		// The reference takes long for independent letters, which have one trace with each content.
		if want := c.want; len(refSteps(c.x)) < 256 && refOfContent(c.x, c.content) != want {
			t.Errorf("%v has not %d traces with the content %v", c.x, want, c.content)
		}
		number, code := impl.CountOfContent(c.x, c.content)
		mustCount(t, "CountOfContent", []any{c.x, c.content}, number, code, c.want, c.code)
	}
}

func TestContentsOfManyTraces(t *testing.T) {
	codes := map[int64]int{}
	x := numbers(92)
	for _, y := range testAlphabets() {
		for _, sum := range []int{x.below(25), 24} {
			content := make([]int64, y.Letters)
			for range sum {
				if y.Letters > 0 {
					content[x.below(int(y.Letters))]++
				}
			}
			if len(refSteps(y)) > 30 && sum > 16 {
				continue // the reference takes long
			}
			want := refOfContent(y, content)
			expected := codeIf(want <= impl.MaxCount, impl.ErrLimit)
			number, code := impl.CountOfContent(y, content)
			mustCount(t, "CountOfContent", []any{y, content}, number, code, want, expected)
			codes[expected]++
		}
	}
	if codes[impl.ErrNone] < 200 || codes[impl.ErrLimit] < 5 {
		t.Errorf("the numbers have the codes %v", codes)
	}
}

func TestContentsThatAreRefused(t *testing.T) {
	narrow, huge := alphabetWith(complete(8)...), int64(math.MaxInt64)
	cases := []struct {
		x       impl.Alphabet
		content []int64
	}{
		{square(), nil}, {square(), []int64{1, 1, 1}}, {square(), make([]int64, 3)}, {square(), make([]int64, 5)}, {square(), []int64{1, 1, 1, 1, 0}}, {square(), make([]int64, 100000)},
		{impl.Alphabet{}, []int64{0}}, {impl.Alphabet{}, []int64{1}}, {alphabetWith(1), nil}, {alphabetWith(1), []int64{0, 0}}, {alphabetWith(1), []int64{25}}, {alphabetWith(1), []int64{-1}},
		{alphabetWith(1), []int64{huge}}, {alphabetWith(1), []int64{math.MinInt64}}, {square(), []int64{-1, 0, 0, 0}}, {square(), []int64{0, 0, 0, -1}}, {square(), []int64{25, -1, 0, 0}}, {square(), []int64{-1, 25, 0, 0}},
		{square(), []int64{24, 1, -1, 0}}, {square(), []int64{1, 1, 1, math.MinInt64}}, {square(), []int64{25, 0, 0, 0}}, {square(), []int64{24, 0, 0, 1}}, {square(), []int64{1, 0, 0, 24}}, {square(), []int64{7, 6, 6, 6}},
		{square(), []int64{huge, 0, 0, 0}}, {square(), []int64{0, 0, 0, huge}}, {square(), []int64{huge, huge, 2, 0}}, {square(), []int64{huge, huge, 3, 0}}, {square(), []int64{huge, 1, 0, 0}},
		{square(), []int64{huge, math.MinInt64, 1, 0}}, {square(), []int64{math.MinInt64, math.MinInt64, 0, 0}}, {square(), []int64{math.MinInt64, huge, 2, 0}}, {square(), []int64{1 << 62, 1 << 62, 1 << 62, 1 << 62}},
		{square(), []int64{1 << 32, 0, 0, 0}},
		// ErrRange comes before ErrLimit.
		{narrow, []int64{3, 3, 3, 3, 3, 3, 3, 4}}, {narrow, []int64{4, 3, 3, 3, 3, 3, 3, 3}}, {narrow, []int64{4, 4, 4, 3, 3, 3, 4, -1}}, {narrow, []int64{3, 3, 3, 3, 3, 3, 3, 3, 0}}, {narrow, []int64{3, 3, 3, 3, 3, 3, 3}},
	}
	for _, c := range cases {
		number, code := impl.CountOfContent(c.x, c.content)
		mustCount(t, "CountOfContent", c.content[:min(len(c.content), 9)], number, code, 0, impl.ErrRange)
	}
}

// checkPlace holds the functions of ranks against the definition on a word of a trace, and returns
// the rank.
func checkPlace(t *testing.T, x impl.Alphabet, byFirst []bySize, w []int64) int64 {
	t.Helper()
	normal := refExtreme(x, w, 1)
	want := refRank(x, byFirst, normal)
	rank, code := impl.RankOfTrace(x, w)
	mustBeNumber(t, "RankOfTrace of "+key(x), w, rank, code, want)
	got, code := impl.TraceAtRank(x, int64(len(w)), want)
	mustBe(t, "TraceAtRank of "+key(x), []int64{want}, got, code, normal)
	next := refNextNormal(x, normal)
	got, code = impl.NextTrace(x, w)
	mustBeOrFail(t, "NextTrace", []any{x, w}, got, code, next, codeIf(next != nil, no))
	if next != nil {
		rank, code = impl.RankOfTrace(x, next)
		mustBeNumber(t, "RankOfTrace of "+key(x), next, rank, code, want+1)
	}
	return want
}

func TestRanksOfLongWords(t *testing.T) {
	great := 0
	x := numbers(93)
	for _, y := range testAlphabets() {
		if y.Letters == 0 {
			continue
		}
		byFirst := refByFirst(y)
		for _, n := range []int{24, 12 + x.below(12), x.below(12)} {
			for refTotal(byFirst, n) > impl.MaxCount {
				n--
			}
			w := exchanged(&x, y, someWord(&x, int(y.Letters), n), 20)
			if checkPlace(t, y, byFirst, w) > 1e12 {
				great++
			}
		}
	}
	if great < 100 {
		t.Errorf("only %d ranks are great", great)
	}
}

func TestFirstAndLastTraces(t *testing.T) {
	for _, x := range testAlphabets() {
		if x.Letters == 0 {
			continue
		}
		byFirst := refByFirst(x)
		for _, n := range []int{0, 1, 2, 7, 16, 24} {
			total := refTotal(byFirst, n)
			if total > impl.MaxCount {
				continue
			}
			first, last := make([]int64, n), refLast(x, n)
			if rank := checkPlace(t, x, byFirst, first); rank != 0 {
				t.Errorf("the rank of the first trace of %v with %d letters is %d", x, n, rank)
			}
			if rank := checkPlace(t, x, byFirst, last); rank != total-1 {
				t.Errorf("the rank of the last trace of %v with %d letters is %d", x, n, rank)
			}
			got, code := impl.NextTrace(x, last)
			mustFail(t, "NextTrace", last, got, code, impl.ErrNotFound)
		}
	}
}

func TestNextTracesWithoutLimit(t *testing.T) {
	found := 0
	someTraces(94, func(x *numbers, y impl.Alphabet, u, v []int64) {
		long := append(slices.Clone(v), someWord(x, int(y.Letters), 24-len(v))...)
		// Those with great letters at the end have a next trace that differs early.
		half := append(slices.Clone(u[:len(u)/2]), slices.Repeat([]int64{y.Letters - 1}, 24-len(u)/2)...)
		for _, w := range [][]int64{u, long, half, reversed(half), refLast(y, 24)} {
			next := refNextNormal(y, refExtreme(y, w, 1))
			got, code := impl.NextTrace(y, w)
			mustBeOrFail(t, "NextTrace", []any{y, w}, got, code, next, codeIf(next != nil, no))
		}
		if _, code := impl.CountTraces(y, 24); code == impl.ErrLimit {
			found++
		}
	})
	if found < 50 {
		t.Errorf("only %d alphabets have more than MaxCount traces", found)
	}
}

// sumOf adds numbers up.
func sumOf(list []int64) int64 {
	sum := int64(0)
	for _, n := range list {
		sum += n
	}
	return sum
}

func TestPromise6(t *testing.T) {
	for _, x := range testAlphabets() {
		for _, n := range []int64{0, 1, 2, 3, 5, 9, 24} {
			total, code := impl.CountTraces(x, n)
			if code == impl.ErrLimit {
				break
			}
			heights, code := impl.CountByHeight(x, n)
			mustBeNumber(t, "the sum of CountByHeight", []any{x, n}, sumOf(heights), code, total)
			var firsts []int64
			for _, mask := range refSteps(x) {
				number, code := impl.CountByFirst(x, n, mask)
				firsts = append(firsts, mustList(t, "CountByFirst", []int64{number}, code)...)
			}
			mustBeNumber(t, "the sum of CountByFirst", []any{x, n}, sumOf(firsts), impl.ErrNone, total)
			// There are as many contents as traces of independent letters.
			if number, _ := impl.CountTraces(alphabetWith(antichain(int(x.Letters))...), n); number <= 60 {
				var numbers []int64
				for _, content := range contentsWith(int(x.Letters), int(n)) {
					number, code := impl.CountOfContent(x, content)
					numbers = append(numbers, mustList(t, "CountOfContent", []int64{number}, code)...)
				}
				mustBeNumber(t, "the sum of CountOfContent", []any{x, n}, sumOf(numbers), impl.ErrNone, total)
			}
			if total <= 100 {
				checkListOfTraces(t, x, n, total)
			}
		}
	}
}

// checkListOfTraces reports an error unless the list of all traces with n letters agrees with their
// ranks and numbers.
func checkListOfTraces(t *testing.T, x impl.Alphabet, n, total int64) {
	t.Helper()
	list, code := impl.TracesOfLength(x, n)
	mustBeNumber(t, "the length of TracesOfLength", []any{x, n}, int64(len(list)), code, total)
	heights, firsts := make([]int64, n+1), make([]int64, 1<<x.Letters)
	for rank, w := range list {
		height, code := impl.HeightOf(x, w)
		mustList(t, "HeightOf", nil, code)
		heights[height]++
		first, code := impl.FirstLetters(x, w)
		mustList(t, "FirstLetters", nil, code)
		firsts[first]++
		number, code := impl.RankOfTrace(x, w)
		mustBeNumber(t, "RankOfTrace of "+key(x), w, number, code, int64(rank))
		got, code := impl.TraceAtRank(x, n, int64(rank))
		mustBe(t, "TraceAtRank of "+key(x), []int64{int64(rank)}, got, code, w)
		got, code = impl.NextTrace(x, w)
		if rank+1 < len(list) {
			mustBe(t, "NextTrace of "+key(x), w, got, code, list[rank+1])
		} else {
			mustFail(t, "NextTrace of "+key(x), w, got, code, impl.ErrNotFound)
		}
	}
	got, code := impl.CountByHeight(x, n)
	mustBe(t, "CountByHeight of "+key(x), []int64{n}, got, code, heights)
	for mask, want := range firsts {
		number, code := impl.CountByFirst(x, n, int64(mask))
		mustBeNumber(t, "CountByFirst of "+key(x), []any{n, mask}, number, code, want)
	}
}

func TestPromise22OnTracesOfALength(t *testing.T) {
	for _, x := range testAlphabets() {
		words := int64(1)
		for n := int64(0); n <= 24; n++ {
			list, code := impl.TracesOfLength(x, n)
			if code == impl.ErrLimit || len(list) > 250 {
				break
			}
			sum, all := int64(0), [][]int64{}
			for _, w := range list {
				size, code := impl.CountClass(x, w)
				sum += mustList(t, "CountClass", []int64{size}, code)[0]
				if words <= 1000 {
					class, code := impl.ClassOf(x, w)
					mustList(t, "ClassOf", nil, code)
					all = append(all, class...)
				}
			}
			mustBeNumber(t, "the sum of CountClass", []any{x, n}, sum, impl.ErrNone, words)
			slices.SortFunc(all, slices.Compare)
			if words <= 1000 && !areEqualLists(all, allWords(int(x.Letters), int(n))) {
				t.Errorf("the traces of %v with %d letters do not have each word once", x, n)
			}
			if words *= x.Letters; words > impl.MaxCount {
				break
			}
		}
	}
}

func TestPromise25OnTraces(t *testing.T) {
	for _, x := range testAlphabets() {
		polynomial, code := impl.CliquePolynomial(x)
		mustList(t, "CliquePolynomial", polynomial, code)
		for n := range int64(25) {
			series, code := impl.InverseSeries(polynomial, n)
			total, totalCode := impl.CountTraces(x, n)
			if code != totalCode || code != impl.ErrNone && code != impl.ErrLimit {
				t.Fatalf("CountTraces(%v, %d) and InverseSeries have the codes %d and %d", x, n, totalCode, code)
			}
			if code == impl.ErrNone && (len(series) != int(n)+1 || series[n] != total) {
				t.Errorf("CountTraces(%v, %d) = %d, and InverseSeries = %v", x, n, total, series)
			}
		}
	}
}

func TestInvalidAlphabetsOfCounting(t *testing.T) {
	// ErrInvalid comes before ErrRange, before ErrLimit and before the other errors.
	lists := [][]int64{nil, {0}, {1}, {-1}, {8}, {0, 0}, {24, 0}, {25}, make([]int64, 24), make([]int64, 25), word("hgfedcbahgfedcbahgfedcba"), {3, 3, 3, 3, 3, 3, 3, 3}}
	for _, x := range notAlphabets() {
		shown := x.Depends[:min(len(x.Depends), 9)]
		got, code := impl.CliquePolynomial(x)
		mustFail(t, "CliquePolynomial", shown, got, code, impl.ErrInvalid)
		for _, n := range []int64{0, 1, 24, -1, 25, math.MaxInt64, math.MinInt64} {
			for _, f := range slices.Concat(lengthCalls(0, 0), lengthCalls(1, 1), lengthCalls(-1, -1), lengthCalls(256, math.MaxInt64)) {
				got, code := f.call(x, n)
				mustFailLists(t, f.name, shown, got, code, impl.ErrInvalid)
			}
		}
		for _, w := range lists {
			for _, f := range countingWordCalls() {
				got, code := f.call(x, w)
				mustFailLists(t, f.name, shown, got, code, impl.ErrInvalid)
			}
		}
	}
}

func TestLengthsThatAreRefused(t *testing.T) {
	// ErrRange for a length or a mask comes before ErrLimit.
	for _, x := range slices.Concat(evenAlphabets(), smallAlphabets()) {
		for _, n := range []int64{-1, -24, 25, 26, 64, 1 << 32, 1<<32 + 3, math.MaxInt64, math.MinInt64} {
			for _, f := range slices.Concat(lengthCalls(0, 0), lengthCalls(-1, -1), lengthCalls(1<<x.Letters, math.MaxInt64)) {
				got, code := f.call(x, n)
				mustFailLists(t, f.name, []any{x, n}, got, code, impl.ErrRange)
			}
		}
		for _, mask := range noMasks(int(x.Letters)) {
			for _, n := range []int64{0, 1, 24, -1, 25} {
				number, code := impl.CountByFirst(x, n, mask)
				mustCount(t, "CountByFirst", []any{x, n, mask}, number, code, 0, impl.ErrRange)
			}
		}
	}
}

func TestWordsThatAreRefusedForCounting(t *testing.T) {
	for _, x := range []impl.Alphabet{{}, alphabetWith(1), square(), alphabetWith(antichain(8)...), alphabetWith(complete(8)...)} {
		for _, w := range notWords(x.Letters) {
			for _, f := range countingWordCalls()[:2] {
				got, code := f.call(x, w)
				mustFailLists(t, f.name, w[:min(len(w), 30)], got, code, impl.ErrRange)
			}
		}
	}
}

func TestSetsOfFirstLetters(t *testing.T) {
	wide, narrow := alphabetWith(antichain(8)...), alphabetWith(complete(8)...)
	cases := []struct {
		x             impl.Alphabet
		n, mask, want int64
	}{
		{square(), 0, 0, 1}, {square(), 1, 0, 0}, {square(), 14, 0, 0}, {square(), 0, 1, 0}, {square(), 0, 5, 0}, {square(), 1, 5, 0}, {square(), 1, 4, 1}, {square(), 3, 5, 4}, {square(), 2, 10, 1},
		{square(), 2, 3, 0}, {square(), 3, 7, 0}, {square(), 4, 15, 0}, {square(), 0, 15, 0}, {square(), 3, 11, 0}, {wide, 8, 255, 1}, {wide, 7, 255, 0}, {wide, 24, 255, 245157}, {wide, 24, 128, 1}, {wide, 0, 0, 1},
		{wide, 24, 0, 0}, {narrow, 16, 128, 1 << 45}, {narrow, 16, 192, 0}, {narrow, 16, 0, 0}, {narrow, 16, 255, 0}, {impl.Alphabet{}, 0, 0, 1}, {impl.Alphabet{}, 24, 0, 0}, {alphabetWith(1), 24, 1, 1}, {alphabetWith(1), 24, 0, 0},
	}
	for _, c := range cases {
		number, code := impl.CountByFirst(c.x, c.n, c.mask)
		mustBeNumber(t, "CountByFirst", []any{c.x, c.n, c.mask}, number, code, c.want)
	}
}

func TestCountingIsFast(t *testing.T) {
	list := append(evenAlphabets(), alphabetWhere(8, func(i, k int) bool { return k == 7 }), groups(true, 1, 1, 1, 1, 1, 1, 2))
	long := slices.Concat([]int64{1, -8}, make([]int64, 5000000))
	within(t, "InverseSeries", func() { impl.InverseSeries(long, 24) })
	within(t, "CountOfContent", func() { impl.CountOfContent(square(), long) })
	for _, x := range list {
		for n := int64(14); n <= 24; n++ {
			for _, f := range slices.Concat(lengthCalls(1, 0), lengthCalls(128, 1000000)) {
				within(t, f.name, func() { f.call(x, n) })
			}
		}
		for _, w := range words("hgfedcbahgfedcbahgfedcba", "aaabbbcccdddeeefffggghhh", "hhhhhhhhhhhhhhhhhhhhhhhh", "", "hgfedcbahgfedc") {
			for _, f := range countingWordCalls()[:2] {
				within(t, f.name, func() { f.call(x, w) })
			}
		}
		for _, content := range [][]int64{{3, 3, 3, 3, 3, 3, 3, 3}, {4, 3, 3, 3, 3, 3, 3, 2}, {0, 24, 0, 0, 0, 0, 0, 0}} {
			within(t, "CountOfContent", func() { impl.CountOfContent(x, content) })
		}
	}
}

func TestCountsShareNoMemory(t *testing.T) {
	depends, isDependsKept := spacious(square().Depends)
	x := impl.Alphabet{Letters: 4, Depends: depends}
	check := func(name string, call func() ([][]int64, int64)) {
		t.Helper()
		checkFresh(t, name, isDependsKept, call)
	}
	for n := range int64(5) {
		for _, f := range lengthCalls(5, n) {
			check(f.name, func() ([][]int64, int64) { return f.call(x, n) })
		}
		p, isListKept := spacious([]int64{1, -4, 2}[:1+n%3])
		check("InverseSeries", oneCall(func() ([]int64, int64) { return impl.InverseSeries(p, n) }))
		if !isListKept() {
			t.Errorf("InverseSeries changes an argument")
		}
	}
	check("CliquePolynomial", oneCall(func() ([]int64, int64) { return impl.CliquePolynomial(x) }))
	for _, text := range []string{"", "a", "ca", "cabd", "acacbdbd", "aacc", "abcdabcd", "dddd", "ddca"} {
		w, isKept := spacious(word(text))
		for _, f := range countingWordCalls()[:2] {
			check(f.name, func() ([][]int64, int64) { return f.call(x, w) })
		}
		if !isKept() {
			t.Errorf("RankOfTrace or NextTrace(%s) changes an argument", text)
		}
	}
	content, isContentKept := spacious([]int64{2, 1, 0, 3})
	impl.CountOfContent(x, content)
	if !isContentKept() || !isDependsKept() {
		t.Errorf("CountOfContent changes an argument")
	}
}

// oneCall turns a call that returns a list into one that returns lists.
func oneCall(call func() ([]int64, int64)) func() ([][]int64, int64) {
	return func() ([][]int64, int64) {
		got, code := call()
		return [][]int64{got}, code
	}
}
