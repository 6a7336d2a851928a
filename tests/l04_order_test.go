package tests

import (
	"math"
	"slices"
	"testing"

	"loop.example/g01094/impl"
)

// noIndices returns numbers that are not indices of a list of n elements.
func noIndices(n int) []int64 {
	return []int64{-1, -2, int64(n), int64(n) + 1, 24, 25, 64, 1 << 32, math.MaxInt64, math.MinInt64}
}

// noMasks returns numbers that are not masks of n elements.
func noMasks(n int) []int64 {
	return []int64{-1, 1 << n, 1<<n | 1, 3<<n - 1, -1 << n, 1 << 24, 1 << 32, math.MaxInt64, math.MinInt64}
}

// orderCalls returns the functions of chapter 4 that are given an alphabet and a word, with a
// position and a mask.
func orderCalls(i, mask int64) []wordCall {
	return []wordCall{
		{"OrderOf", oneList(impl.OrderOf)}, {"PrefixesOf", oneList(impl.PrefixesOf)}, {"CountPrefixes", oneNumber(impl.CountPrefixes)},
		{"PastOf", oneNumber(func(x impl.Alphabet, w []int64) (int64, int64) { return impl.PastOf(x, w, i) })},
		{"ConcurrentWith", oneNumber(func(x impl.Alphabet, w []int64) (int64, int64) { return impl.ConcurrentWith(x, w, i) })},
		{"PrefixAt", oneList(func(x impl.Alphabet, w []int64) ([]int64, int64) { return impl.PrefixAt(x, w, mask) })},
		{"HeightOf", oneNumber(impl.HeightOf)}, {"LatestSteps", oneList(impl.LatestSteps)}, {"WidthOf", oneNumber(impl.WidthOf)},
		{"LongestChain", oneList(impl.LongestChain)}, {"FirstLetters", oneNumber(impl.FirstLetters)}, {"LastLetters", oneNumber(impl.LastLetters)},
	}
}

func TestExamplesOfOrders(t *testing.T) {
	x := square()
	got, code := impl.OrderOf(x, word("acbd"))
	mustBe(t, "OrderOf", word("acbd"), got, code, []int64{13, 14, 4, 8})
	got, code = impl.TraceOfOrder(x, word("bc"), []int64{1, 3})
	mustBe(t, "TraceOfOrder", word("bc"), got, code, word("cb"))
	n, code := impl.ConcurrentWith(x, word("acbd"), 0)
	mustBeNumber(t, "ConcurrentWith", "acbd", n, code, 2)
	n, code = impl.PastOf(x, word("acbd"), 3)
	mustBeNumber(t, "PastOf", "acbd", n, code, 11)
	got, code = impl.PrefixesOf(x, word("acb"))
	mustBe(t, "PrefixesOf", word("acb"), got, code, []int64{0, 1, 2, 3, 7})
	got, code = impl.PrefixAt(x, word("cabd"), 11)
	mustBe(t, "PrefixAt", word("cabd"), got, code, word("acd"))
	got, code = impl.LatestSteps(x, word("aab"))
	mustBe(t, "LatestSteps", word("aab"), got, code, []int64{1, 2, 3})
	got, code = impl.LatestSteps(x, word("aabc")) // the normal form
	mustBe(t, "LatestSteps", word("aabc"), got, code, []int64{1, 2, 3, 4})
	got, code = impl.LatestSteps(x, word("aac"))
	mustBe(t, "LatestSteps", word("aac"), got, code, []int64{1, 2, 2})
	n, code = impl.WidthOf(x, word("acbd"))
	mustBeNumber(t, "WidthOf", "acbd", n, code, 2)
	got, code = impl.LongestChain(x, word("acbd"))
	mustBe(t, "LongestChain", word("acbd"), got, code, []int64{0, 2})
	n, code = impl.FirstLetters(x, word("acbd"))
	mustBeNumber(t, "FirstLetters", "acbd", n, code, 5)
	n, code = impl.LastLetters(x, word("acbd"))
	mustBeNumber(t, "LastLetters", "acbd", n, code, 10)
}

// checkFacts holds all functions but PrefixAt against the facts of the trace of a word.
func checkFacts(t *testing.T, x impl.Alphabet, w []int64, f facts) {
	t.Helper()
	got, code := impl.OrderOf(x, w)
	mustBe(t, "OrderOf of "+key(x), w, got, code, f.order)
	got, code = impl.LatestSteps(x, w)
	mustBe(t, "LatestSteps of "+key(x), w, got, code, f.latest)
	got, code = impl.LongestChain(x, w)
	mustBe(t, "LongestChain of "+key(x), w, got, code, f.chain)
	n, code := impl.HeightOf(x, w)
	mustBeNumber(t, "HeightOf of "+key(x), w, n, code, f.height)
	n, code = impl.WidthOf(x, w)
	mustBeNumber(t, "WidthOf of "+key(x), w, n, code, f.width)
	n, code = impl.FirstLetters(x, w)
	mustBeNumber(t, "FirstLetters of "+key(x), w, n, code, f.first)
	n, code = impl.LastLetters(x, w)
	mustBeNumber(t, "LastLetters of "+key(x), w, n, code, f.last)
	n, code = impl.CountPrefixes(x, w)
	mustBeNumber(t, "CountPrefixes of "+key(x), w, n, code, int64(len(f.prefixes)))
	got, code = impl.PrefixesOf(x, w)
	if len(f.prefixes) > 4096 {
		mustFail(t, "PrefixesOf of "+key(x), w, got, code, impl.ErrLimit)
	} else {
		mustBe(t, "PrefixesOf of "+key(x), w, got, code, f.prefixes)
	}
	below := refConverse(f.order)
	for i := range f.order {
		n, code = impl.PastOf(x, w, int64(i))
		mustBeNumber(t, "PastOf of "+key(x)+key(i), w, n, code, below[i])
		n, code = impl.ConcurrentWith(x, w, int64(i))
		mustBeNumber(t, "ConcurrentWith of "+key(x)+key(i), w, n, code, refConcurrentWith(f.order, i))
	}
}

// checkPrefix holds PrefixAt against the definition on one set of positions.
func checkPrefix(t *testing.T, x impl.Alphabet, w []int64, f facts, s int64) {
	t.Helper()
	got, code := impl.PrefixAt(x, w, s)
	if _, isDownset := slices.BinarySearch(f.prefixes, s); isDownset {
		mustBe(t, "PrefixAt of "+key(x)+key(s), w, got, code, refExtreme(x, lettersAt(f.normal, s), 1))
	} else {
		mustFail(t, "PrefixAt of "+key(x)+key(s), w, got, code, impl.ErrState)
	}
}

// checkNoPosition reports an error unless positions and masks that do not exist are refused.
func checkNoPosition(t *testing.T, x impl.Alphabet, w []int64) {
	t.Helper()
	for _, i := range noIndices(len(w)) {
		n, code := impl.PastOf(x, w, i)
		mustFail(t, "PastOf of "+key(x)+key(i), w, make([]int64, n), code, impl.ErrRange)
		n, code = impl.ConcurrentWith(x, w, i)
		mustFail(t, "ConcurrentWith of "+key(x)+key(i), w, make([]int64, n), code, impl.ErrRange)
	}
	for _, mask := range noMasks(len(w)) {
		got, code := impl.PrefixAt(x, w, mask)
		mustFail(t, "PrefixAt of "+key(x)+key(mask), w, got, code, impl.ErrRange)
	}
}

// checkOrders holds all functions against the definitions on all words of one trace.
func checkOrders(t *testing.T, x impl.Alphabet, class [][]int64) {
	t.Helper()
	f := factsOfClass(x, class)
	if long := factsOfWord(x, class[len(class)-1]); key(long) != key(f) {
		t.Fatalf("the facts of %v and %v are %v and %v", x, class[0], f, long)
	}
	for _, w := range class {
		checkFacts(t, x, w, f)
	}
	for s := range int64(1) << len(f.order) {
		checkPrefix(t, x, class[int(s)%len(class)], f, s)
	}
	checkNoPosition(t, x, class[len(class)-1])
}

func TestOrdersOfAllShortWords(t *testing.T) {
	for _, x := range smallAlphabets() {
		for _, w := range wordsUpTo(int(x.Letters), longestFor(x.Letters)) {
			if class := refClass(x, w, 1000); slices.Equal(class[0], w) {
				checkOrders(t, x, class)
			}
		}
	}
}

func TestOrdersOfSomeWords(t *testing.T) {
	x := numbers(40)
	checked := 0
	for n := 3; n <= 8; n++ {
		for rare := 1; rare <= 4; rare++ {
			for range 3 {
				for _, y := range []impl.Alphabet{someAlphabet(&x, n, rare), refComplement(someAlphabet(&x, n, rare))} {
					if class := refClass(y, someWord(&x, n, 6+x.below(4)), 60); class != nil {
						checked++
						checkOrders(t, y, class)
					}
				}
			}
		}
	}
	if checked < 50 {
		t.Errorf("only %d classes were small enough", checked)
	}
}

func TestOrdersOfLongWords(t *testing.T) {
	someTraces(41, func(x *numbers, y impl.Alphabet, u, v []int64) {
		f := factsOfWord(y, u)
		checkFacts(t, y, u, f)
		checkFacts(t, y, v, f)
		for range 5 {
			checkPrefix(t, y, v, f, f.prefixes[x.below(len(f.prefixes))])
			checkPrefix(t, y, u, f, int64(x.below(1<<len(u))))
		}
		checkNoPosition(t, y, v)
	})
}

func TestOrdersOfLargeTraces(t *testing.T) {
	x := numbers(42)
	for _, c := range slices.Concat(largeTraces(), overlargeTraces()) {
		w := word(c.text)
		f := factsOfWord(c.x, w)
		checkFacts(t, c.x, w, f)
		checkFacts(t, c.x, f.normal, f)
		checkFacts(t, c.x, exchanged(&x, c.x, w, 100), f)
		checkNoPosition(t, c.x, w)
	}
}

func TestOrderOfTheEmptyWord(t *testing.T) {
	for _, x := range slices.Concat(evenAlphabets(), smallAlphabets(), []impl.Alphabet{{Depends: []int64{}}}) {
		for _, w := range [][]int64{nil, {}} {
			checkFacts(t, x, w, facts{prefixes: []int64{0}})
			checkNoPosition(t, x, w)
			got, code := impl.PrefixAt(x, w, 0)
			mustBe(t, "PrefixAt", nil, got, code, nil)
			got, code = impl.TraceOfOrder(x, w, w)
			mustBe(t, "TraceOfOrder", nil, got, code, nil)
		}
	}
}

func TestOrdersOfMaxWordLetters(t *testing.T) {
	one, wide, narrow := alphabetWith(1), alphabetWith(antichain(8)...), alphabetWith(complete(8)...)
	all := word("hgfedcbahgfedcbahgfedcba")
	up, line, prefixes := chains(24), make([]int64, 24), make([]int64, 25)
	for i := range line {
		line[i], prefixes[i+1] = int64(i), 2<<i-1
	}
	latest := slices.Repeat([]int64{1, 2, 3}, 8)
	tower := facts{order: up, prefixes: prefixes, chain: line, height: 24, width: 1, first: 1, last: 1}
	tower.latest = prefixes[:0:0]
	for i := range line {
		tower.latest = append(tower.latest, int64(i)+1)
	}
	checkFacts(t, one, make([]int64, 24), tower)
	checkFacts(t, wide, make([]int64, 24), tower)
	tower.first, tower.last = 1<<7, 1
	checkFacts(t, narrow, all, tower)
	flat := facts{order: chains(3, 3, 3, 3, 3, 3, 3, 3), prefixes: make([]int64, 65536), latest: latest, chain: []int64{0, 1, 2}, height: 3, width: 8, first: 255, last: 255}
	checkFacts(t, wide, all, flat)
	checkFacts(t, wide, reversed(all), flat)
	for _, x := range []impl.Alphabet{wide, narrow} {
		got, code := impl.PrefixAt(x, all, 1<<24-1)
		mustBe(t, "PrefixAt", all, got, code, mustGive(t, x, all))
		got, code = impl.PrefixAt(x, all, 0)
		mustBe(t, "PrefixAt", all, got, code, nil)
		got, code = impl.PrefixAt(x, all, 1<<23)
		mustFail(t, "PrefixAt", all, got, code, impl.ErrState)
		got, code = impl.PrefixAt(x, all, 1<<24-2)
		mustFail(t, "PrefixAt", all, got, code, impl.ErrState)
	}
	got, code := impl.PrefixAt(wide, all, 1<<21|3)
	mustBe(t, "PrefixAt", all, got, code, word("aah"))
}

func TestPastsAndConcurrentPositions(t *testing.T) {
	x := alphabetWith(3, 7, 6, 8) // a and c are independent, and d is independent of all
	cases := []struct {
		text        string
		pasts, with []int64
	}{
		{"d", []int64{1}, []int64{0}}, {"dddd", []int64{1, 3, 7, 15}, []int64{0, 0, 0, 0}}, {"ac", []int64{1, 2}, []int64{2, 1}},
		{"acb", []int64{1, 2, 7}, []int64{2, 1, 0}}, {"bac", []int64{1, 3, 5}, []int64{0, 4, 2}}, {"bca", []int64{1, 3, 5}, []int64{0, 4, 2}},
		{"acbd", []int64{1, 2, 7, 8}, []int64{10, 9, 8, 7}}, {"dcab", []int64{1, 2, 7, 8}, []int64{10, 9, 8, 7}},
		{"ddab", []int64{1, 3, 4, 12}, []int64{12, 12, 3, 3}}, {"abc", []int64{1, 3, 7}, []int64{0, 0, 0}},
	}
	for _, c := range cases {
		w := word(c.text)
		for i := range c.pasts {
			n, code := impl.PastOf(x, w, int64(i))
			mustBeNumber(t, "PastOf of "+key(i), c.text, n, code, c.pasts[i])
			n, code = impl.ConcurrentWith(x, w, int64(i))
			mustBeNumber(t, "ConcurrentWith of "+key(i), c.text, n, code, c.with[i])
		}
		checkNoPosition(t, x, w)
	}
}

func TestPrefixesOfAboutMaxFamily(t *testing.T) {
	// Traces of independent letters have as many prefixes as there are ways to take some of each
	// letter: 4096 for the first ones. A last letter that depends on all others adds one prefix, and
	// so does a first one.
	apart := groups(true, 1, 1, 1, 1, 1, 1)
	on := alphabetWhere(7, func(i, k int) bool { return k == 6 })
	cases := []struct {
		x    impl.Alphabet
		text string
		size int64
	}{
		{apart, "fedcbafedcbafedcba", 4096}, {apart, "aaaaaaabbbbbbbcccccccdef", 4096}, {apart, "fedcccccccbbbbbbbaaaaaaa", 4096},
		{apart, "aaaaaaabbbccccccceeefff", 4096}, {on, "aaabbbcccdddeeefff", 4096}, {on, "aaabbbcccdddeeefffg", 4097}, {on, "gaaabbbcccdddeeefff", 4097},
		{on, "aaaaaaabbbbbbbcccccccde", 2048}, {on, "gfedcbafedcbafedcba", 4097}, {on, "abcdefgabcdefgabcdefg", 193}, {square(), "acacacacacacacacacacacac", 169},
		{groups(true, 1, 1, 1, 1, 1), "aaaabbbbccccddddeeee", 3125}, {groups(true, 1, 1, 1, 1, 1), "aaaabbbbccccddddeeeee", 3750},
		{groups(true, 1, 1, 1, 1, 1), "aaaabbbbccccdddddeeeee", 4500}, {alphabetWith(antichain(8)...), "aaabbbcccdddeeefffggghhh", 65536},
		{alphabetWith(antichain(8)...), "aaaabbbcccdddeeefffggghh", 61440}, {alphabetWith(antichain(8)...), "abcdefghabcd", 1296}, {alphabetWith(antichain(8)...), "abcdefghabcdefgh", 6561},
	}
	for _, c := range cases {
		w := word(c.text)
		f := factsOfWord(c.x, w)
		if int64(len(f.prefixes)) != c.size {
			t.Errorf("the trace of %s has %d prefixes", c.text, len(f.prefixes))
		}
		n, code := impl.CountPrefixes(c.x, w)
		mustBeNumber(t, "CountPrefixes", c.text, n, code, c.size)
		got, code := impl.PrefixesOf(c.x, w)
		if c.size > impl.MaxFamily {
			mustFail(t, "PrefixesOf", w, got, code, impl.ErrLimit)
		} else {
			mustBe(t, "PrefixesOf", w, got, code, f.prefixes)
		}
	}
}

func TestChainsOfSameLength(t *testing.T) {
	x := alphabetWith(3, 7, 6, 8) // a and c are independent, and d is independent of all
	cases := []struct {
		x             impl.Alphabet
		text          string
		chain, latest []int64
		width         int64
	}{
		{x, "acb", []int64{0, 2}, []int64{1, 1, 2}, 2}, {x, "bac", []int64{0, 1}, []int64{1, 2, 2}, 2}, {x, "acbd", []int64{0, 2}, []int64{1, 1, 2, 2}, 3},
		{x, "ddda", []int64{1, 2, 3}, []int64{3, 1, 2, 3}, 2}, {x, "accb", []int64{1, 2, 3}, []int64{2, 1, 2, 3}, 2},
		{x, "acbbacd", []int64{0, 2, 3, 4}, []int64{1, 1, 2, 3, 4, 4, 4}, 3}, {square(), "acbdac", []int64{0, 2, 4}, []int64{1, 1, 2, 2, 3, 3}, 2},
		{square(), "acac", []int64{0, 1}, []int64{1, 2, 1, 2}, 2}, {square(), "d", []int64{0}, []int64{1}, 1},
		{alphabetWith(antichain(8)...), "hgfedcba", []int64{0}, slices.Repeat([]int64{1}, 8), 8},
		{alphabetWith(complete(8)...), "hgfedcba", []int64{0, 1, 2, 3, 4, 5, 6, 7}, []int64{1, 2, 3, 4, 5, 6, 7, 8}, 1},
	}
	for _, c := range cases {
		w := word(c.text)
		got, code := impl.LongestChain(c.x, w)
		mustBe(t, "LongestChain", w, got, code, c.chain)
		got, code = impl.LatestSteps(c.x, w)
		mustBe(t, "LatestSteps", w, got, code, c.latest)
		n, code := impl.HeightOf(c.x, w)
		mustBeNumber(t, "HeightOf", c.text, n, code, int64(len(c.chain)))
		n, code = impl.WidthOf(c.x, w)
		mustBeNumber(t, "WidthOf", c.text, n, code, c.width)
	}
}

// mustList returns the list that a call returned, which must not have failed.
func mustList(t *testing.T, name string, got []int64, code int64) []int64 {
	t.Helper()
	if code != impl.ErrNone {
		t.Fatalf("%s: code %d", name, code)
	}
	return got
}

func TestSizesAgainstEachOther(t *testing.T) {
	someTraces(43, func(x *numbers, y impl.Alphabet, u, v []int64) {
		normal := mustGive(t, y, u)
		order, code := impl.OrderOf(y, v)
		mustList(t, "OrderOf", order, code)
		latest, code := impl.LatestSteps(y, v)
		mustList(t, "LatestSteps", latest, code)
		foata, code := impl.FoataForm(y, u)
		mustList(t, "FoataForm", foata, code)
		height, code := impl.HeightOf(y, v)
		mustBeNumber(t, "HeightOf of "+key(y), v, height, code, int64(len(foata)))
		for i, step := range refHeights(y, normal) {
			if int64(step) > latest[i] || latest[i] > height {
				t.Errorf("the position %d of %v is in the step %d, its latest one is %d of %d", i, normal, step, latest[i], height)
			}
			for k := range normal {
				if i != k && related(order, i, k) && latest[i] >= latest[k] {
					t.Errorf("the latest steps of %v are %v", normal, latest)
				}
			}
		}
		chain, code := impl.LongestChain(y, v)
		if code != impl.ErrNone || int64(len(chain)) != height || !slices.IsSorted(chain) {
			t.Errorf("LongestChain(%v, %v) = %v, %d", y, v, chain, code)
		}
		for i, k := range chain {
			// A longest chain has a position in each step, and none of its positions can wait.
			if latest[k] != int64(i)+1 || i > 0 && !related(order, int(chain[i-1]), int(k)) {
				t.Errorf("LongestChain(%v, %v) = %v with the latest steps %v", y, v, chain, latest)
			}
		}
		width, code := impl.WidthOf(y, v)
		if code != impl.ErrNone || width*height < int64(len(u)) || len(u) > 0 && (width < 1 || width > y.Letters) {
			t.Errorf("WidthOf(%v, %v) = %d, %d", y, v, width, code)
		}
		for _, step := range foata {
			if width < int64(len(refMembers(step))) {
				t.Errorf("WidthOf(%v, %v) = %d with the steps %v", y, v, width, foata)
			}
		}
		checkEnds(t, y, u, v, foata)
	})
}

// checkEnds holds FirstLetters and LastLetters of u and v, words of one trace with these steps,
// against the steps and against each other.
func checkEnds(t *testing.T, x impl.Alphabet, u, v, foata []int64) {
	t.Helper()
	first, code := impl.FirstLetters(x, v)
	mustBeNumber(t, "FirstLetters of "+key(x), v, first, code, append(foata, 0)[0])
	last, code := impl.LastLetters(x, v)
	reverse, reverseCode := impl.ReverseOf(x, u)
	mustList(t, "ReverseOf", reverse, reverseCode)
	n, firstCode := impl.FirstLetters(x, reverse)
	mustBeNumber(t, "FirstLetters of "+key(x), reverse, n, firstCode, last)
	n, lastCode := impl.LastLetters(x, reverse)
	mustBeNumber(t, "LastLetters of "+key(x), reverse, n, lastCode, first)
	if code != impl.ErrNone || len(u) > 0 && (first>>u[0]&1 == 0 || last>>u[len(u)-1]&1 == 0) {
		t.Errorf("FirstLetters and LastLetters(%v, %v) = %d and %d, %d", x, v, first, last, code)
	}
}

// checkTraceOfOrder holds TraceOfOrder against the definition, where w is a word of the trace or nil
// if there is none.
func checkTraceOfOrder(t *testing.T, x impl.Alphabet, p labelled, w []int64) {
	t.Helper()
	got, code := impl.TraceOfOrder(x, p.labels, p.order)
	if w == nil {
		mustFail(t, "TraceOfOrder of "+key(x)+key(p), p.labels, got, code, impl.ErrState)
	} else {
		mustBe(t, "TraceOfOrder of "+key(x)+key(p), p.labels, got, code, refExtreme(x, w, 1))
	}
}

func TestTracesOfAllSmallOrders(t *testing.T) {
	longest := []int{2, 4, 4, 3}
	for letters, length := range longest {
		for n := range length + 1 {
			orders, all := allOrders(n), bijections(n)
			for _, x := range allAlphabetsOf(letters) {
				// All labelled orders that a bijection leads to those of traces.
				traces := map[string][]int64{}
				for _, w := range allWords(letters, n) {
					normal := refNormalForm(x, w)
					for _, names := range all {
						p := labelled{normal, refOrder(x, normal)}.under(names)
						if known := traces[key(p)]; known != nil && !slices.Equal(known, normal) {
							t.Fatalf("%v is the order of %v and of %v", p, known, normal)
						}
						traces[key(p)] = normal
					}
				}
				for _, order := range orders {
					for _, labels := range allWords(letters, n) {
						p := labelled{labels, order}
						w := refWordOfOrder(x, p)
						if want := traces[key(p)]; (want == nil) != (w == nil) || w != nil && !slices.Equal(want, refExtreme(x, w, 1)) {
							t.Fatalf("the trace of %v is %v, and not that of %v", p, want, w)
						}
						checkTraceOfOrder(t, x, p, w)
					}
				}
			}
		}
	}
}

func TestTracesOfLargeOrders(t *testing.T) {
	x := numbers(44)
	for i, y := range testAlphabets() {
		if y.Letters == 0 {
			continue
		}
		w := someWord(&x, int(y.Letters), x.below(25))
		p := labelled{w, refOrder(y, w)}.under(someNames(&x, len(w)))
		checkTraceOfOrder(t, y, p, w)
		if i%4 > 0 {
			continue
		}
		for _, q := range changedOrders(p, y.Letters) {
			if x.below(len(w)) < 4 {
				checkTraceOfOrder(t, y, q, refWordOfOrder(y, q))
			}
		}
	}
}

func TestTracesOfSomeOrders(t *testing.T) {
	one, wide, narrow := alphabetWith(1), alphabetWith(antichain(8)...), alphabetWith(complete(8)...)
	x := alphabetWith(3, 7, 6, 8) // a and c are independent, and d is independent of all
	down := refConverse(chains(24))
	cases := []struct {
		x      impl.Alphabet
		labels string
		order  []int64
		want   string // "" if there is none
	}{
		{x, "ac", []int64{1, 2}, "ac"}, {x, "ca", []int64{1, 2}, "ac"}, {x, "ab", []int64{3, 2}, "ab"}, {x, "ab", []int64{1, 3}, "ba"},
		{x, "abc", []int64{7, 6, 4}, "abc"}, {x, "abc", []int64{1, 3, 7}, "cba"}, // a and c are related by a chain
		{x, "acb", []int64{5, 6, 4}, "acb"}, {x, "bac", []int64{7, 2, 4}, "bac"}, {x, "bac", []int64{1, 3, 5}, "acb"},
		{x, "aa", []int64{3, 2}, "aa"}, {x, "aa", []int64{1, 3}, "aa"}, {x, "d", []int64{1}, "d"}, {x, "da", []int64{1, 2}, "ad"},
		{x, "ac", []int64{3, 2}, ""}, {x, "ac", []int64{1, 3}, ""}, {x, "ab", []int64{1, 2}, ""}, {x, "aa", []int64{1, 2}, ""},
		{x, "acb", []int64{7, 6, 4}, ""}, {x, "abc", []int64{3, 2, 4}, ""}, {x, "abc", []int64{1, 6, 4}, ""}, {x, "abcd", []int64{15, 14, 12, 8}, ""},
		{x, "aab", []int64{5, 6, 4}, ""}, {x, "d", []int64{1, 2}, ""}, {x, "dd", []int64{1}, ""}, {x, "", []int64{1}, ""}, {x, "d", nil, ""},
		{one, "aaaaaaaaaaaaaaaaaaaaaaaa", chains(24), "aaaaaaaaaaaaaaaaaaaaaaaa"}, {one, "aaaaaaaaaaaaaaaaaaaaaaaa", down, "aaaaaaaaaaaaaaaaaaaaaaaa"},
		{one, "aaaaaaaaaaaaaaaaaaaaaaaa", antichain(24), ""}, {one, "aaaaaaaaaaaaaaaaaaaaaaaa", chains(23, 1), ""}, {one, "aaaaaaaaaaaaaaaaaaaaaaa", chains(24), ""},
		{one, "aaaaaaaaaaaaaaaaaaaaaaaa", chains(23), ""}, {wide, "abcdefgh", antichain(8), "abcdefgh"}, {wide, "hgfedcba", antichain(8), "abcdefgh"},
		{wide, "hhhgggfffeeedddcccbbbaaa", chains(3, 3, 3, 3, 3, 3, 3, 3), "aaabbbcccdddeeefffggghhh"}, {wide, "hhhgggfffeeedddcccbbbaaa", chains(3, 3, 3, 3, 3, 3, 6), ""},
		{narrow, "hgfedcbaabcdefghhgfedcba", chains(24), "hgfedcbaabcdefghhgfedcba"}, {narrow, "hgfedcbaabcdefghhgfedcbb", down, "bbcdefghhgfedcbaabcdefgh"},
		{narrow, "hgfedcbaabcdefghhgfedcba", chains(20, 4), ""}, {narrow, "h", []int64{1}, "h"},
	}
	for _, c := range cases {
		got, code := impl.TraceOfOrder(c.x, word(c.labels), c.order)
		if c.want == "" {
			mustFail(t, "TraceOfOrder of "+c.labels, c.order, got, code, impl.ErrState)
		} else {
			mustBe(t, "TraceOfOrder of "+c.labels, c.order, got, code, word(c.want))
		}
	}
}

func TestErrorsOfTraceOfOrder(t *testing.T) {
	orders := [][]int64{nil, {1}, {3, 2}, antichain(24), chains(23)}
	noOrders := slices.Concat(notRelations(), notOrders())
	for _, x := range notAlphabets() {
		for _, labels := range [][]int64{nil, {0}, {0, 0}, {-1}, make([]int64, 25)} {
			for _, r := range slices.Concat(orders, noOrders) {
				got, code := impl.TraceOfOrder(x, labels, r)
				mustFail(t, "TraceOfOrder", r[:min(len(r), 25)], got, code, impl.ErrInvalid)
			}
		}
	}
	for _, x := range []impl.Alphabet{{}, alphabetWith(1), square(), alphabetWith(complete(8)...)} {
		noWords := notWords(x.Letters)
		for _, labels := range noWords {
			for _, r := range orders { // with as many elements, and not; of a trace, and not
				got, code := impl.TraceOfOrder(x, labels, r)
				mustFail(t, "TraceOfOrder of "+key(labels[:min(len(labels), 25)]), r, got, code, impl.ErrRange)
			}
		}
		for _, labels := range append(noWords, nil, make([]int64, 2), make([]int64, 24)) {
			for _, r := range noOrders {
				got, code := impl.TraceOfOrder(x, labels, r)
				mustFail(t, "TraceOfOrder of "+key(labels[:min(len(labels), 25)]), r[:min(len(r), 25)], got, code, impl.ErrInvalid)
			}
		}
	}
}

func TestPromise4(t *testing.T) {
	someTraces(45, func(x *numbers, y impl.Alphabet, u, v []int64) {
		normal := mustGive(t, y, u)
		order, code := impl.OrderOf(y, v)
		if mustList(t, "OrderOf", order, code); !impl.IsOrder(order) {
			t.Fatalf("OrderOf(%v, %v) = %v", y, v, order)
		}
		names := someNames(x, len(u))
		p := labelled{normal, order}.under(names)
		got, code := impl.TraceOfOrder(y, p.labels, p.order)
		mustBe(t, "TraceOfOrder of "+key(y)+key(p), v, got, code, normal)
		height, code := impl.HeightOf(y, v)
		chain, chainCode := impl.LongestChain(y, u)
		mustBeNumber(t, "HeightOf of "+key(y), v, height, code+chainCode, int64(len(chain)))
		downsets, code := impl.DownsetsOf(order)
		prefixes, prefixCode := impl.PrefixesOf(y, v)
		if code != prefixCode || !slices.Equal(prefixes, downsets) {
			t.Errorf("PrefixesOf(%v, %v) = %v, %d, and not %v, %d", y, v, prefixes, prefixCode, downsets, code)
		}
		number, code := impl.CountPrefixes(y, v)
		if code != impl.ErrNone || prefixCode == impl.ErrNone && number != int64(len(prefixes)) || prefixCode == impl.ErrLimit && number <= 4096 {
			t.Errorf("CountPrefixes(%v, %v) = %d, %d with %d prefixes", y, v, number, code, len(prefixes))
		}
		found := map[string]bool{}
		for _, s := range prefixes[:min(len(prefixes), 300)] {
			prefix, code := impl.PrefixAt(y, v, s)
			// With the other letters behind it, a prefix gives the trace.
			whole := append(slices.Clone(prefix), lettersAt(normal, 1<<len(u)-1-s)...)
			mustBe(t, "PrefixAt of "+key(y)+key(s), v, mustGive(t, y, whole), code, normal)
			if found[key(prefix)] {
				t.Errorf("PrefixAt(%v, %v, %d) = %v is the prefix of another downset too", y, v, s, prefix)
			}
			found[key(prefix)] = true
		}
	})
}

func TestPromise22OnAllShortWords(t *testing.T) {
	for _, x := range smallAlphabets() {
		for _, w := range wordsUpTo(int(x.Letters), longestFor(x.Letters)) {
			checkLinearOrders(t, x, w)
		}
	}
}

// checkLinearOrders reports an error unless the linear orders of the positions of a trace give its
// words, each one once.
func checkLinearOrders(t *testing.T, x impl.Alphabet, w []int64) {
	t.Helper()
	order, code := impl.OrderOf(x, w)
	mustList(t, "OrderOf", order, code)
	class, code := impl.ClassOf(x, w)
	mustBeLists(t, "ClassOf of "+key(x), w, class, code, linearWords(order, mustGive(t, x, w)))
}

func TestPromise22OnSomeWords(t *testing.T) {
	someTraces(46, func(x *numbers, y impl.Alphabet, u, v []int64) {
		n, code := impl.CountClass(y, u)
		if code == impl.ErrNone && n <= impl.MaxClass {
			checkLinearOrders(t, y, v)
		}
		order, orderCode := impl.OrderOf(y, v)
		downsets, downsetCode := impl.PrefixesOf(y, v)
		if code == impl.ErrNone && downsetCode == impl.ErrNone {
			mustBeNumber(t, "CountClass of "+key(y), u, n, orderCode, countLinear(order, downsets))
		}
	})
}

func TestInvalidAlphabetsOfOrders(t *testing.T) {
	// ErrInvalid comes before ErrRange, before ErrLimit and before ErrState.
	lists := [][]int64{nil, {0}, {0, 0}, {-1}, {8}, make([]int64, 24), make([]int64, 25), word("hgfedcbahgfedcbahgfedcba")}
	for _, x := range notAlphabets() {
		for _, w := range lists {
			for _, f := range slices.Concat(orderCalls(0, 0), orderCalls(-1, -1), orderCalls(1, 2), orderCalls(math.MaxInt64, math.MaxInt64)) {
				got, code := f.call(x, w)
				mustFailLists(t, f.name, x.Depends[:min(len(x.Depends), 9)], got, code, impl.ErrInvalid)
			}
		}
	}
}

func TestWordsThatAreRefusedForOrders(t *testing.T) {
	for _, x := range []impl.Alphabet{{}, alphabetWith(1), square(), alphabetWith(antichain(8)...), alphabetWith(complete(8)...)} {
		for _, w := range notWords(x.Letters) {
			for _, f := range slices.Concat(orderCalls(0, 0), orderCalls(0, 2), orderCalls(24, 1<<24), orderCalls(-1, math.MinInt64)) {
				got, code := f.call(x, w)
				mustFailLists(t, f.name, w[:min(len(w), 30)], got, code, impl.ErrRange)
			}
		}
	}
	// A mask that has too large members too is refused before one that is no downset.
	got, code := impl.PrefixAt(square(), word("acbd"), 16|4)
	mustFail(t, "PrefixAt", word("acbd"), got, code, impl.ErrRange)
	got, code = impl.PrefixAt(square(), word("acbd"), 4)
	mustFail(t, "PrefixAt", word("acbd"), got, code, impl.ErrState)
}

func TestOrdersOfLargeTracesAreFast(t *testing.T) {
	wide := alphabetWith(antichain(8)...)
	cases := append(largeTraces(), overlargeTraces()...)
	for _, c := range append(cases, largeTrace{alphabetWith(complete(8)...), "hgfedcbahgfedcbahgfedcba", 1}, largeTrace{wide, "aaabbbcccdddeeefffggghhh", 0}) {
		for _, f := range orderCalls(int64(len(c.text))-1, 1<<len(c.text)-1) {
			within(t, f.name, func() {
				for range 20 {
					f.call(c.x, word(c.text))
				}
			})
		}
	}
	labels := word("aaabbbcccdddeeefffggghhh")
	within(t, "TraceOfOrder", func() { impl.TraceOfOrder(wide, labels, antichain(24)) })
	within(t, "TraceOfOrder", func() { impl.TraceOfOrder(wide, labels, chains(3, 3, 3, 3, 3, 3, 3, 3)) })
	within(t, "TraceOfOrder", func() { impl.TraceOfOrder(wide, labels, make([]int64, 1000000)) })
}

func TestOrdersShareNoMemory(t *testing.T) {
	for _, text := range []string{"", "a", "cabd", "acacbdbd", "aacc", "abcdabcd"} {
		depends, isDependsKept := spacious(square().Depends)
		x := impl.Alphabet{Letters: 4, Depends: depends}
		w, isKept := spacious(word(text))
		for _, mask := range []int64{0, 1, 1<<len(w) - 1} {
			for _, f := range orderCalls(0, mask) {
				got, code := f.call(x, w)
				want, wantCode := f.call(x, w)
				if code != wantCode || !areEqualLists(got, want) {
					t.Errorf("%s(%s) = %v, %d, and then %v, %d", f.name, text, got, code, want, wantCode)
				}
				scribble(got...)
				if again, _ := f.call(x, w); !areEqualLists(again, want) || !isDependsKept() || !isKept() {
					t.Fatalf("%s(%s) changes or shares an argument", f.name, text)
				}
			}
		}
		order, isOrderKept := spacious(refOrder(square(), w))
		got, code := impl.TraceOfOrder(x, w, order)
		mustBe(t, "TraceOfOrder", order, got, code, refExtreme(square(), w, 1))
		scribble(got)
		again, code := impl.TraceOfOrder(x, w, order)
		mustBe(t, "TraceOfOrder", order, again, code, refExtreme(square(), word(text), 1))
		if !isDependsKept() || !isKept() || !isOrderKept() {
			t.Errorf("TraceOfOrder(%s) changes or shares an argument", text)
		}
	}
}
