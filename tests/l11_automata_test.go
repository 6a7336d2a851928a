package tests

import (
	"math"
	"slices"
	"strings"
	"testing"

	"loop.example/g01094/impl"
)

// question has arguments for all functions of chapter 11.
type question struct {
	x    impl.Alphabet
	m, k impl.Automaton
	w    []int64
	n    int64 // a number of letters, or a kind
}

// automatonCall is a function of chapter 11 as a function to lists, none if the results beside the code
// are zero values. Its arguments are told by their names.
type automatonCall struct {
	name, arguments string
	call            func(q question) ([][]int64, int64)
}

// automatonLists returns lists for an automaton, none for the zero value.
func automatonLists(m impl.Automaton, code int64) ([][]int64, int64) {
	if areEqualAutomata(m, impl.Automaton{}) {
		return nil, code
	}
	return append([][]int64{{m.Letters, m.Start, m.Final}}, m.Next...), code
}

// oneValue turns a number into lists, none if it is 0.
func oneValue(number, code int64) ([][]int64, int64) {
	if number == 0 {
		return nil, code
	}
	return [][]int64{{number}}, code
}

// openCall turns OpenWord into a function to lists, none if both results are zero values.
func openCall(q question) ([][]int64, int64) {
	w, place, code := impl.OpenWord(q.x, q.m)
	if len(w) == 0 && place == 0 {
		return nil, code
	}
	return [][]int64{w, {place}}, code
}

func automatonCalls() []automatonCall {
	return []automatonCall{
		{"ReadWord", "mw", func(q question) ([][]int64, int64) { return oneValue(impl.ReadWord(q.m, q.w)) }},
		{"AcceptsWord", "mw", func(q question) ([][]int64, int64) { return oneTruth(impl.AcceptsWord(q.m, q.w)) }},
		{"UsefulStates", "m", func(q question) ([][]int64, int64) { return oneValue(impl.UsefulStates(q.m)) }},
		{"MinimalAutomaton", "m", func(q question) ([][]int64, int64) { return automatonLists(impl.MinimalAutomaton(q.m)) }},
		{"HasDiamonds", "xm", func(q question) ([][]int64, int64) { return oneTruth(impl.HasDiamonds(q.x, q.m)) }},
		{"DiamondFault", "xm", func(q question) ([][]int64, int64) { return oneResult(impl.DiamondFault(q.x, q.m)) }},
		{"IsClosed", "xm", func(q question) ([][]int64, int64) { return oneTruth(impl.IsClosed(q.x, q.m)) }},
		{"OpenWord", "xm", openCall},
		{"NormalAutomaton", "x", func(q question) ([][]int64, int64) { return automatonLists(impl.NormalAutomaton(q.x)) }},
		{"CountAccepted", "xmn", func(q question) ([][]int64, int64) { return oneValue(impl.CountAccepted(q.x, q.m, q.n)) }},
		{"ListAccepted", "xmn", func(q question) ([][]int64, int64) { return impl.ListAccepted(q.x, q.m, q.n) }},
		{"CombineAutomata", "mkn", func(q question) ([][]int64, int64) { return automatonLists(impl.CombineAutomata(q.m, q.k, q.n)) }},
		{"SameLanguage", "mk", func(q question) ([][]int64, int64) { return oneTruth(impl.SameLanguage(q.m, q.k)) }},
		{"DifferenceWord", "mk", func(q question) ([][]int64, int64) { return oneResult(impl.DifferenceWord(q.m, q.k)) }},
	}
}

// mustBeAutomaton reports an error unless a call returned this automaton and ErrNone, or another code
// alone.
func mustBeAutomaton(t *testing.T, name string, arguments any, got impl.Automaton, code int64, want impl.Automaton, expected int64) {
	t.Helper()
	if expected != impl.ErrNone {
		want = impl.Automaton{}
	}
	if code != expected || !areEqualAutomata(got, want) {
		t.Errorf("%s(%v) = %v, %d, and not %v, %d", name, arguments, got, code, want, expected)
	}
}

// mustOpen reports an error unless OpenWord returns this word with the first place where it is open, or
// the code that is due for a word that is too long or that there is not.
func mustOpen(t *testing.T, x impl.Alphabet, m impl.Automaton, want []int64, isOpen bool) {
	t.Helper()
	expected := codeIf(isOpen, no)
	if len(want) > 24 {
		expected = impl.ErrLimit
	}
	place := refOpenPlace(x, m, want)
	if expected != impl.ErrNone {
		want, place = nil, 0
	}
	got, at, code := impl.OpenWord(x, m)
	if code != expected || !slices.Equal(got, want) || at != place {
		t.Errorf("OpenWord(%v, %v) = %v, %d, %d, and not %v, %d, %d", x, m, got, at, code, want, place, expected)
	}
}

// mustDiffer reports an error unless SameLanguage and DifferenceWord tell that two automata differ, and
// this is the first word with which they do.
func mustDiffer(t *testing.T, m, k impl.Automaton, want []int64, differ bool) {
	t.Helper()
	same, code := impl.SameLanguage(m, k)
	mustReport(t, "SameLanguage", []any{m, k}, same, code, !differ)
	expected := codeIf(differ, no)
	if len(want) > 24 {
		expected = impl.ErrLimit
	}
	got, code := impl.DifferenceWord(m, k)
	mustBeOrFail(t, "DifferenceWord", []any{m, k}, got, code, want, expected)
}

func TestConstantsOfAutomata(t *testing.T) {
	got := []int64{impl.MaxStates, impl.MaxList, impl.MaxLength, impl.CombineBoth, impl.CombineEither, impl.CombineWithout}
	mustBe(t, "the constants", nil, got, impl.ErrNone, []int64{16, 64, 20, 0, 1, 2})
}

func TestExamplesOfAutomata(t *testing.T) {
	none := automatonWith(2, 0, 0, []int64{1, 0}, []int64{-1, 1})
	useful, code := impl.UsefulStates(none)
	mustBeNumber(t, "UsefulStates", none, useful, code, 0)
	minimal, code := impl.MinimalAutomaton(none)
	mustBeAutomaton(t, "MinimalAutomaton", none, minimal, code, automatonWith(2, 0, 0, []int64{-1, -1}), impl.ErrNone)
	m := automatonWith(1, 0, 3, []int64{1}, []int64{0})
	minimal, code = impl.MinimalAutomaton(m)
	mustBeAutomaton(t, "MinimalAutomaton", m, minimal, code, automatonWith(1, 0, 1, []int64{0}), impl.ErrNone)
	for n := range 9 {
		x := alphabetWith(complete(n)...)
		normal, code := impl.NormalAutomaton(x)
		mustBeAutomaton(t, "NormalAutomaton", x, normal, code, everything(int64(n)), impl.ErrNone)
	}
}

// mustBeSome reports an error unless IsAutomaton tells whether this is an automaton.
func mustBeSome(t *testing.T, m impl.Automaton) bool {
	t.Helper()
	want := refIsAutomaton(m)
	if got := impl.IsAutomaton(m); got != want {
		t.Errorf("IsAutomaton(%v) = %v", m, got)
	}
	return want
}

func TestIsAutomaton(t *testing.T) {
	var rows [][]int64 // -3 to 2 are written 0 to 5
	for _, row := range wordsUpTo(6, 2) {
		for i := range row {
			row[i] -= 3
		}
		rows = append(rows, row)
	}
	counts := map[bool]int{}
	for letters := range int64(4) {
		for start := range int64(4) {
			for final := range int64(6) {
				counts[mustBeSome(t, automatonWith(letters-1, start-1, final-1))]++
				for _, row := range rows {
					counts[mustBeSome(t, automatonWith(letters-1, start-1, final-1, row))]++
					counts[mustBeSome(t, automatonWith(letters-1, start-1, final-1, row, []int64{0}))]++
					counts[mustBeSome(t, automatonWith(letters-1, start-1, final-1, []int64{1, -1}, row))]++
				}
			}
		}
	}
	if counts[true] < 50 {
		t.Errorf("only %v are automata", counts)
	}
}

func TestSizesOfAutomata(t *testing.T) {
	for letters := int64(-1); letters < 11; letters++ {
		for states := range 19 {
			row := slices.Repeat([]int64{int64(states - 1)}, int(max(letters, 0)))
			m := impl.Automaton{Letters: letters, Next: slices.Repeat([][]int64{row}, states)}
			if isSome := mustBeSome(t, m); isSome != (letters >= 0 && letters <= 8 && states > 0 && states <= 16) {
				t.Errorf("IsAutomaton with %d letters and %d states is %v", letters, states, isSome)
			}
			for _, start := range []int64{-1, 1, int64(states) - 1, int64(states), 16, math.MaxInt64, math.MinInt64, 1 << 32} {
				mustBeSome(t, impl.Automaton{Letters: letters, Start: start, Next: m.Next})
			}
			for _, final := range []int64{-1, 1<<states - 1, 1 << states, 1<<states + 1, 1 << 16, 1 << 32, math.MaxInt64, math.MinInt64} {
				mustBeSome(t, impl.Automaton{Letters: letters, Final: final, Next: m.Next})
			}
		}
	}
	for _, m := range notAutomata(3) {
		if mustBeSome(t, m) {
			t.Errorf("%v is an automaton", m)
		}
	}
}

// notAutomata returns what is not an automaton, but would be one of so many letters, at least 1.
func notAutomata(letters int64) []impl.Automaton {
	row := make([]int64, letters)
	last := func(next int64) []int64 { return append(slices.Clone(row[1:]), next) }
	return []impl.Automaton{
		{}, {Letters: letters}, automatonWith(letters, 0, 0, [][]int64{}...), automatonWith(letters, 0, 0, nil), automatonWith(letters, 0, 0, row[1:]), automatonWith(letters, 0, 0, last(0), append(last(0), 0)),
		automatonWith(-1, 0, 0, row), automatonWith(9, 0, 0, make([]int64, 9)), automatonWith(math.MaxInt64, 0, 0, row), automatonWith(math.MinInt64, 0, 0, row), automatonWith(letters+1<<32, 0, 0, row),
		automatonWith(letters, -1, 0, row, row), automatonWith(letters, 2, 0, row, row), automatonWith(letters, math.MinInt64, 0, row), automatonWith(letters, 1<<32, 0, row),
		automatonWith(letters, 0, -1, row), automatonWith(letters, 0, 4, row, row), automatonWith(letters, 0, 1<<16, slices.Repeat([][]int64{row}, 16)...), automatonWith(letters, 0, math.MinInt64, row), automatonWith(letters, 0, 1<<32, row),
		automatonWith(letters, 0, 1, last(-2), row), automatonWith(letters, 0, 1, row, last(2)), automatonWith(letters, 0, 1, last(math.MinInt64)), automatonWith(letters, 0, 1, last(1<<32)), automatonWith(letters, 0, 1, row, last(math.MaxInt64)),
		automatonWith(letters, 0, 1, slices.Repeat([][]int64{row}, 17)...), automatonWith(letters, 0, 1, make([]int64, 1000000)), automatonWith(letters, 0, 1, make([][]int64, 1000000)...),
	}
}

// checkReading holds ReadWord and AcceptsWord against the definitions on a word.
func checkReading(t *testing.T, m impl.Automaton, w []int64) bool {
	t.Helper()
	end := refAfter(m, m.Start, w...)
	s, code := impl.ReadWord(m, w)
	mustCount(t, "ReadWord", []any{m, w}, s, code, end, codeIf(end >= 0, no))
	is, code := impl.AcceptsWord(m, w)
	mustReport(t, "AcceptsWord", []any{m, w}, is, code, refAccepts(m, w))
	return end >= 0
}

// smallAutomata calls a function with all automata of few letters and states, or with some of those that
// are more.
func smallAutomata(call func(m impl.Automaton)) {
	for _, c := range [][3]int{{0, 1, 1}, {0, 2, 1}, {0, 3, 1}, {1, 1, 1}, {1, 2, 1}, {1, 3, 1}, {2, 1, 1}, {2, 2, 1}, {2, 3, 97}, {3, 1, 1}, {3, 2, 13}, {1, 4, 53}} {
		allAutomata(c[0], c[1], c[2], call)
	}
}

func TestDefinitionsOnSmallAutomata(t *testing.T) {
	t.Parallel()
	all, smaller, useless := 0, 0, 0
	smallAutomata(func(m impl.Automaton) {
		mustBeSome(t, m)
		for _, w := range wordsUpTo(int(m.Letters), 3) {
			checkReading(t, m, w)
		}
		want := refUseful(m)
		useful, code := impl.UsefulStates(m)
		mustBeNumber(t, "UsefulStates", m, useful, code, want)
		minimal, code := impl.MinimalAutomaton(m)
		least := tableOf(m).minimal(toldByWords(m))
		mustBeAutomaton(t, "MinimalAutomaton", m, minimal, code, least, impl.ErrNone)
		all++
		useless += oneIf(len(refMembers(want)) < len(m.Next))
		smaller += oneIf(len(least.Next) < len(refMembers(want)))
	})
	if all < 4000 || useless < 1000 || smaller < 300 {
		t.Errorf("of %d automata, %d have useless states, and %d have states that are one", all, useless, smaller)
	}
}

func TestDefinitionsOnSmallAutomataOverAlphabets(t *testing.T) {
	t.Parallel()
	lists := map[[2]int][][]int64{}
	open, closedWithFaults, later := 0, 0, 0
	smallAutomata(func(m impl.Automaton) {
		n := len(m.Next)
		size := [2]int{int(m.Letters), n}
		if lists[size] == nil {
			// A shortest open word has less than n letters before both neighbours, and less than n n behind.
			lists[size] = wordsUpTo(int(m.Letters), n*n+n)
		}
		for _, x := range allAlphabetsOf(int(m.Letters)) {
			shown := []any{x, m}
			fault := refDiamondFault(x, m)
			has, code := impl.HasDiamonds(x, m)
			mustReport(t, "HasDiamonds", shown, has, code, len(fault) == 0)
			got, code := impl.DiamondFault(x, m)
			mustBeOrFail(t, "DiamondFault", shown, got, code, fault, codeIf(len(fault) > 0, no))
			w, isOpen := openAmong(x, m, lists[size])
			is, code := impl.IsClosed(x, m)
			mustReport(t, "IsClosed", shown, is, code, !isOpen)
			mustOpen(t, x, m, w, isOpen)
			open += oneIf(isOpen)
			later += oneIf(isOpen && refOpenPlace(x, m, w) > 0)
			closedWithFaults += oneIf(!isOpen && len(fault) > 0)
		}
	})
	if open < 1000 || closedWithFaults < 500 || later < 100 {
		t.Errorf("only %d languages are open, %d of them later, and %d are closed in spite of faults", open, later, closedWithFaults)
	}
}

func TestDefinitionsOnPairsOfSmallAutomata(t *testing.T) {
	t.Parallel()
	var list []impl.Automaton
	for _, c := range [][3]int{{0, 1, 1}, {0, 2, 5}, {1, 1, 1}, {1, 2, 3}, {1, 3, 53}, {2, 1, 3}, {2, 2, 17}, {2, 3, 4507}, {3, 2, 607}} {
		allAutomata(c[0], c[1], c[2], func(m impl.Automaton) { list = append(list, m) })
	}
	same, differ := 0, 0
	for _, m := range list {
		for _, k := range list {
			if m.Letters != k.Letters {
				continue
			}
			shown := []any{m, k}
			all := wordsUpTo(int(m.Letters), len(m.Next)+len(k.Next)) // which tell all languages of both apart
			first, second := acceptedFrom(m, m.Start, all), acceptedFrom(k, k.Start, all)
			i := slices.IndexFunc(all, func(w []int64) bool { return refAccepts(m, w) != refAccepts(k, w) })
			if i < 0 {
				mustDiffer(t, m, k, nil, false)
				same++
			} else {
				mustDiffer(t, m, k, all[i], true)
				differ++
			}
			for kind, accepts := range kinds() {
				got, code := impl.CombineAutomata(m, k, int64(kind))
				if code != impl.ErrNone || !impl.IsAutomaton(got) || !areEqualAutomata(refMinimal(got), got) {
					t.Errorf("CombineAutomata(%v, %d) = %v, %d", shown, kind, got, code)
					continue
				}
				for i, is := range acceptedFrom(got, 0, all) {
					if (is == '1') != accepts(first[i] == '1', second[i] == '1') {
						t.Errorf("CombineAutomata(%v, %d) = %v, and %v is wrong", shown, kind, got, all[i])
					}
				}
			}
		}
	}
	if same < 500 || differ < 2000 {
		t.Errorf("only %d pairs are the same, and %d differ", same, differ)
	}
}

// largeAutomata calls a function with automata of all numbers of letters and states, in which all letters
// are possible, or some are not.
func largeAutomata(seed numbers, call func(x *numbers, m impl.Automaton)) {
	x := seed
	for letters := range int64(9) {
		for states := 1; states <= 16; states++ {
			for _, rare := range []int{0, 2, 3, 10} {
				m := someAutomaton(&x, letters, states, rare)
				call(&x, m)
				m.Final = 1 << x.below(states)
				call(&x, m)
				if small := refMinimal(someAutomaton(&x, letters, 1+states/4, rare)); len(small.Next) > 0 {
					call(&x, veiled(&x, small))
				}
			}
		}
	}
}

func TestTablesOfLargeAutomata(t *testing.T) {
	t.Parallel()
	smaller, wholes := 0, 0
	largeAutomata(1100, func(x *numbers, m impl.Automaton) {
		mustBeSome(t, m)
		told := tableOf(m).toldByPairs()
		useful, code := impl.UsefulStates(m)
		mustBeNumber(t, "UsefulStates", m, useful, code, tableOf(m).useful(told))
		want := tableOf(m).minimal(told)
		minimal, code := impl.MinimalAutomaton(m)
		mustBeAutomaton(t, "MinimalAutomaton", m, minimal, code, want, impl.ErrNone)
		again, code := impl.MinimalAutomaton(want)
		mustBeAutomaton(t, "MinimalAutomaton", want, again, code, want, impl.ErrNone)
		mustDiffer(t, m, want, nil, false)
		for range 5 {
			checkReading(t, m, someWord(x, int(max(m.Letters, 1)), min(x.below(25), int(m.Letters)*24)))
		}
		smaller += oneIf(len(want.Next) < len(refMembers(useful)))
		wholes += oneIf(len(want.Next) == 16)
	})
	if smaller < 250 || wholes < 20 {
		t.Errorf("only %d automata become smaller, and %d have 16 states", smaller, wholes)
	}
}

func TestTablesOfPairsOfLargeAutomata(t *testing.T) {
	t.Parallel()
	codes := map[int64]int{}
	var last impl.Automaton
	largeAutomata(1110, func(x *numbers, m impl.Automaton) {
		if last.Letters != m.Letters || x.below(2) == 0 {
			last = m
			return
		}
		w, differ := refDifference(m, last)
		mustDiffer(t, m, last, w, differ)
		if kind := int64(x.below(3)); len(m.Next)*len(last.Next) < 100 || x.below(4) == 0 {
			want := refCombine(m, last, kinds()[kind])
			got, code := impl.CombineAutomata(m, last, kind)
			mustBeAutomaton(t, "CombineAutomata", []any{m, last, kind}, got, code, want, codeIf(len(want.Next) <= 16, impl.ErrLimit))
			codes[code]++
		}
		last = m
	})
	if codes[impl.ErrNone] < 80 || codes[impl.ErrLimit] < 30 {
		t.Errorf("there are only %v", codes)
	}
}

// changedAutomaton returns an automaton with one other transition.
func changedAutomaton(x *numbers, m impl.Automaton) impl.Automaton {
	k := m
	k.Next = nil
	for _, row := range m.Next {
		k.Next = append(k.Next, slices.Clone(row))
	}
	if m.Letters > 0 {
		k.Next[x.below(len(m.Next))][x.below(int(m.Letters))] = int64(x.below(len(m.Next)+1)) - 1
	}
	return k
}

// overAlphabets calls a function with alphabets, and automata over them: of some languages, of closed
// ones, and of those with a change.
func overAlphabets(seed numbers, list []impl.Alphabet, call func(x *numbers, y impl.Alphabet, m impl.Automaton)) {
	x := seed
	for _, y := range list {
		m := someClosed(&x, y)
		k := veiled(&x, m)
		call(&x, y, k)
		call(&x, y, changedAutomaton(&x, m))
		call(&x, y, changedAutomaton(&x, k))
		if x.below(4) == 0 {
			call(&x, y, someAutomaton(&x, y.Letters, 1+x.below(16), x.below(6)))
		}
	}
}

// someAlphabets returns the alphabets with up to 4 letters, and some with 5 to 8.
func someAlphabets(x *numbers) []impl.Alphabet {
	list := append(smallAlphabets(), evenAlphabets()...)
	for n := 5; n <= 8; n++ {
		for rare := 1; rare <= 5; rare++ {
			list = append(list, someAlphabet(x, n, rare), refComplement(someAlphabet(x, n, rare)))
		}
	}
	return list
}

func TestLayersOfOpenWords(t *testing.T) {
	t.Parallel()
	open, long, faults, free := 0, 0, 0, 0
	x := numbers(1120)
	for range 3 {
		overAlphabets(x, someAlphabets(&x), func(x *numbers, y impl.Alphabet, m impl.Automaton) {
			shown := []any{y, m}
			w, isOpen := refOpenWord(y, m)
			mustOpen(t, y, m, w, isOpen)
			is, code := impl.IsClosed(y, m)
			mustReport(t, "IsClosed", shown, is, code, !isOpen)
			fault := refDiamondFault(y, m)
			has, code := impl.HasDiamonds(y, m)
			mustReport(t, "HasDiamonds", shown, has, code, len(fault) == 0)
			got, code := impl.DiamondFault(y, m)
			mustBeOrFail(t, "DiamondFault", shown, got, code, fault, codeIf(len(fault) > 0, no))
			open += oneIf(isOpen)
			long += oneIf(len(w) > 5)
			faults += oneIf(!isOpen && len(fault) > 0)
			free += oneIf(len(fault) == 0)
		})
	}
	if open < 200 || long < 12 || faults < 100 || free < 100 {
		t.Errorf("only %d languages are open, %d with long words, %d are closed with faults, and %d automata have diamonds", open, long, faults, free)
	}
}

// chainWith returns an automaton with the letters a, b and c, in which c leads from each of 0 to last to
// the next one, and at one of them a and b lead to another state, but not b and a. Only the state final
// is final.
func chainWith(last, at, to, final int64) impl.Automaton {
	m := automatonWith(3, 0, 1<<final)
	for s := range last + 1 {
		m.Next = append(m.Next, []int64{-1, -1, s + 1})
	}
	m.Next[last][2] = -1
	m.Next[at][0] = last + 1
	m.Next = append(m.Next, []int64{-1, to, -1})
	return m
}

func TestLongOpenWords(t *testing.T) {
	x := alphabetWith(1|4, 2|4, 7)
	for at := range int64(15) {
		for final := range int64(15) {
			m := chainWith(14, at, 0, final)
			want := word(times(int(at), "c") + "ab" + times(int(final), "c"))
			mustOpen(t, x, m, want, true)
			if w, _ := refOpenWord(x, m); !slices.Equal(w, want) {
				t.Errorf("the first open word of %v is %v", m, w)
			}
		}
	}
	for _, c := range []struct{ at, final, code int64 }{{10, 12, impl.ErrNone}, {11, 12, impl.ErrLimit}, {12, 10, impl.ErrNone}, {12, 11, impl.ErrLimit}, {14, 14, impl.ErrLimit}, {8, 14, impl.ErrNone}, {9, 14, impl.ErrLimit}} {
		m := chainWith(14, c.at, 0, c.final)
		w, place, code := impl.OpenWord(x, m)
		want := word(times(int(c.at), "c") + "ab" + times(int(c.final), "c"))
		mustBeOrFail(t, "OpenWord", c, w, code, want, c.code)
		if code == impl.ErrNone && place != c.at || code != impl.ErrNone && place != 0 {
			t.Errorf("the place of the open word with %v is %d", c, place)
		}
		is, code := impl.IsClosed(x, m)
		mustReport(t, "IsClosed", c, is, code, false)
	}
}

func TestOpenWordsOfFewWords(t *testing.T) {
	free, pair := alphabetWith(1, 2, 4), alphabetWith(1|4, 2|4, 7)
	list := func(texts ...string) impl.Automaton {
		m := oneWord(3, word(texts[0]))
		for _, text := range texts[1:] {
			m = refCombine(m, oneWord(3, word(text)), kinds()[1])
		}
		return m
	}
	cases := []struct {
		x     impl.Alphabet
		m     impl.Automaton
		text  string
		place int64
		code  int64
	}{
		{free, list("ab"), "ab", 0, impl.ErrNone}, {free, list("ba"), "ba", 0, impl.ErrNone}, {free, list("ab", "ba"), "", 0, no}, {free, list("ab", "ba", "cb"), "cb", 0, impl.ErrNone}, {free, list(""), "", 0, no}, {free, list("aaa", "c"), "", 0, no},
		// The shorter one is first, and then the smaller one, whatever its place.
		{free, list("aabc", "cb"), "cb", 0, impl.ErrNone}, {free, list("aab", "bca"), "aab", 1, impl.ErrNone}, {free, list("abb", "bab", "cca"), "bab", 1, impl.ErrNone}, {free, list("cab", "cba", "acb"), "acb", 1, impl.ErrNone},
		// Of several places the least one.
		{free, list("abc"), "abc", 0, impl.ErrNone}, {free, list("abc", "bac"), "abc", 1, impl.ErrNone}, {free, list("abcb", "bacb", "acbb"), "abcb", 2, impl.ErrNone}, {pair, list("cab"), "cab", 1, impl.ErrNone}, {pair, list("acba"), "acba", 2, impl.ErrNone},
		{pair, list("acb"), "", 0, no}, {pair, list("acbab", "acbba"), "acbab", 2, impl.ErrNone}, {pair, list("abcab", "abcba", "baca", "bacba"), "baca", 0, impl.ErrNone}, {pair, list("abcab", "abcba", "bacab", "bacba"), "", 0, no},
		// The other order is possible, but leads to no final state.
		{pair, list("ab", "bacc"), "ab", 0, impl.ErrNone}, {pair, list("abc", "ba", "ab", "bacc", "abcc"), "abc", 0, impl.ErrNone}, {pair, list("abcc", "bac", "bacc"), "bac", 0, impl.ErrNone},
		{alphabetWith(complete(3)...), list("ab", "c"), "", 0, no},
	}
	for i, c := range cases {
		w, place, code := impl.OpenWord(c.x, c.m)
		if code != c.code || place != c.place || !slices.Equal(w, word(c.text)) {
			t.Errorf("OpenWord of the case %d is %v, %d, %d", i, w, place, code)
		}
		is, code := impl.IsClosed(c.x, c.m)
		mustReport(t, "IsClosed", i, is, code, c.code == no)
	}
}

func TestReadingToAPlace(t *testing.T) {
	m := automatonWith(2, 1, 1, []int64{0, 2}, []int64{0, 1}, []int64{-1, 2}, []int64{3, 3})
	for text, want := range map[string]int64{"": 1, "b": 1, "a": 0, "bba": 0, "ab": 2, "abbb": 2, times(24, "a"): 0, times(23, "a") + "b": 2} {
		s, code := impl.ReadWord(m, word(text))
		mustBeNumber(t, "ReadWord", text, s, code, want)
		is, code := impl.AcceptsWord(m, word(text))
		mustReport(t, "AcceptsWord", text, is, code, want == 0)
	}
	first := automatonWith(2, 0, 1, []int64{-1, 0})
	for _, c := range []struct {
		m    impl.Automaton
		text string
	}{
		{first, "a"}, {first, "ab"}, {first, times(24, "a")}, {first, "bab"}, {first, times(23, "b") + "a"}, {m, "aba"}, {m, "abab"}, {m, "abaa"}, {m, "bbbba" + times(18, "b") + "a"}, {oneWord(2, nil), "a"}, {oneWord(2, word("ab")), "abb"}, {oneWord(2, word("ab")), "b"},
	} {
		s, code := impl.ReadWord(c.m, word(c.text))
		mustCount(t, "ReadWord", c.text, s, code, 0, no)
		is, code := impl.AcceptsWord(c.m, word(c.text))
		mustReport(t, "AcceptsWord", c.text, is, code, false)
	}
	for _, m := range []impl.Automaton{everything(0), automatonWith(0, 1, 1, nil, nil), automatonWith(0, 1, 2, nil, []int64{})} {
		checkReading(t, m, nil)
		checkReading(t, m, []int64{})
	}
}

func TestUsefulStatesOfKinds(t *testing.T) {
	cases := []struct {
		m    impl.Automaton
		want int64
	}{
		// Start does not lead to 1, 2 leads to no final state, and 3 does neither.
		{automatonWith(2, 0, 1|2, []int64{0, 2}, []int64{0, 1}, []int64{2, 2}, []int64{3, -1}), 1}, {automatonWith(1, 1, 4, []int64{1}, []int64{2}, []int64{-1}), 6}, {automatonWith(1, 2, 1, []int64{1}, []int64{0}, []int64{2}), 0}, {automatonWith(1, 2, 4, []int64{2}, []int64{2}, []int64{2}), 4},
		{automatonWith(0, 0, 0, nil), 0}, {automatonWith(0, 0, 1, nil), 1}, {automatonWith(0, 1, 1, nil, nil), 0}, {automatonWith(0, 1, 3, nil, nil), 2}, {automatonWith(2, 0, 0, []int64{1, 0}, []int64{0, 1}), 0}, {automatonWith(1, 3, 2, []int64{1}, []int64{2}, []int64{3}, []int64{0}), 15},
		{oneWord(8, word("abcdefghabcdefg")), 1<<16 - 1}, {automatonWith(1, 0, 1<<15, slices.Repeat([][]int64{{15}}, 16)...), 1<<15 | 1},
	}
	for _, c := range cases {
		useful, code := impl.UsefulStates(c.m)
		mustBeNumber(t, "UsefulStates", c.m, useful, code, c.want)
	}
}

// ring returns an automaton of one letter that counts its words up to a number, and accepts those numbers
// that are members of a set.
func ring(states int, final int64) impl.Automaton {
	m := automatonWith(1, 0, final)
	for s := range states {
		m.Next = append(m.Next, []int64{int64((s + 1) % states)})
	}
	return m
}

func TestMinimalAutomataOfKinds(t *testing.T) {
	nothing := func(letters int) impl.Automaton {
		return automatonWith(int64(letters), 0, 0, slices.Repeat([]int64{-1}, letters))
	}
	full := oneWord(8, word("abcdefghabcdefg"))
	cases := []struct{ m, want impl.Automaton }{
		{nothing(0), nothing(0)}, {nothing(8), nothing(8)}, {automatonWith(2, 1, 1, []int64{1, 1}, []int64{1, -1}), nothing(2)}, {automatonWith(0, 1, 1, nil, nil), nothing(0)}, {automatonWith(0, 1, 2, nil, nil), everything(0)},
		{automatonWith(8, 7, 1<<16-1, slices.Repeat([][]int64{{0, 1, 2, 3, 12, 13, 14, 15}}, 16)...), everything(8)}, {ring(16, 1), ring(16, 1)}, {ring(16, 1<<15), ring(16, 1<<15)}, {ring(16, 0x1111), ring(4, 1)}, {ring(15, 0x4210), ring(5, 16)}, {ring(16, 0xfffe), ring(16, 0xfffe)}, {full, full},
		// The numbers are those of the order in which the states are reached.
		{automatonWith(2, 2, 1, []int64{-1, -1}, []int64{0, -1}, []int64{1, 0}), automatonWith(2, 0, 4, []int64{1, 2}, []int64{2, -1}, []int64{-1, -1})}, {automatonWith(2, 3, 1, []int64{-1, -1}, []int64{0, 2}, []int64{0, -1}, []int64{2, 1}), automatonWith(2, 0, 8, []int64{1, 2}, []int64{3, -1}, []int64{3, 1}, []int64{-1, -1})},
		{automatonWith(3, 0, 1, []int64{-1, 2, 1}, []int64{-1, -1, 0}, []int64{0, -1, -1}), automatonWith(3, 0, 1, []int64{-1, 1, 2}, []int64{0, -1, -1}, []int64{-1, -1, 0})},
		// 1 and 2 are one state, and 3 is not useful.
		{automatonWith(2, 0, 1|2|4, []int64{1, 2}, []int64{2, 3}, []int64{1, 3}, []int64{3, 3}), automatonWith(2, 0, 3, []int64{1, 1}, []int64{1, -1})},
	}
	for _, c := range cases {
		got, code := impl.MinimalAutomaton(c.m)
		mustBeAutomaton(t, "MinimalAutomaton", c.m, got, code, c.want, impl.ErrNone)
	}
}

func TestDiamondFaultsOfKinds(t *testing.T) {
	free, two := alphabetWith(1, 2, 4), alphabetWith(1, 2|4, 2|4)
	stay := []int64{0, 0, 0}
	cases := []struct {
		x    impl.Alphabet
		m    impl.Automaton
		want []int64
	}{
		{free, everything(3), nil}, {free, automatonWith(3, 0, 0, []int64{-1, -1, -1}), nil}, {free, ring(1, 1), nil},
		// To different states, only a b possible, only b a possible, both not possible.
		{free, automatonWith(3, 0, 1, []int64{1, 2, -1}, []int64{-1, 1, -1}, []int64{2, -1, -1}), []int64{0, 0, 1}}, {free, automatonWith(3, 0, 1, []int64{1, -1, -1}, []int64{-1, 1, -1}), []int64{0, 0, 1}}, {free, automatonWith(3, 0, 1, []int64{-1, 1, -1}, []int64{1, -1, -1}), []int64{0, 0, 1}}, {free, automatonWith(3, 0, 1, []int64{1, 2, -1}, []int64{-1, -1, -1}, []int64{-1, -1, -1}), nil},
		// In a useless state: nothing leads to 1, and from there nothing leads to a final one.
		{free, automatonWith(3, 0, 1, stay, []int64{0, 2, 0}, stay), nil}, {free, automatonWith(3, 0, 1, stay, []int64{1, 2, 1}, []int64{2, 2, 2}), nil}, {free, automatonWith(3, 0, 1, stay, []int64{2, 1, 1}, []int64{2, 1, 2}), []int64{1, 0, 1}}, {free, automatonWith(3, 0, 1, []int64{0, 0, 1}, []int64{1, -1, -1}, stay), []int64{0, 1, 2}},
		// The least state, then the least a, then the least b.
		{free, automatonWith(3, 0, 1, stay, stay, []int64{-1, 0, 2}, []int64{-1, 0, 1}), []int64{2, 0, 1}}, {two, automatonWith(3, 0, 1, []int64{0, 1, 1}, []int64{1, 1, 0}), nil}, {two, automatonWith(3, 0, 1, []int64{1, 0, 0}, []int64{0, 1, 0}), []int64{0, 0, 2}}, {two, automatonWith(3, 0, 1, []int64{1, 0, 0}, []int64{0, 0, 1}), []int64{0, 0, 1}},
		{free, automatonWith(3, 0, 1, []int64{0, 1, -1}, []int64{1, -1, 1}), []int64{0, 1, 2}},
	}
	for i, c := range cases {
		x := c.x
		if c.m.Letters == 1 {
			x = alphabetWith(1)
		}
		mustBe(t, "the definition", []int64{int64(i)}, refDiamondFault(x, c.m), impl.ErrNone, c.want)
		fault, code := impl.DiamondFault(x, c.m)
		mustBeOrFail(t, "DiamondFault", i, fault, code, c.want, codeIf(len(c.want) > 0, no))
		has, code := impl.HasDiamonds(x, c.m)
		mustReport(t, "HasDiamonds", i, has, code, len(c.want) == 0)
	}
}

func TestClosedLanguagesOfKinds(t *testing.T) {
	free := alphabetWith(1, 2)
	cases := []struct {
		m                    impl.Automaton
		isClosed, hasDiamond bool
	}{
		{automatonWith(2, 0, 0, []int64{1, -1}, []int64{-1, 0}), true, false}, {automatonWith(2, 0, 1, []int64{0, 0}, []int64{0, 2}, []int64{-1, -1}), true, false}, {automatonWith(2, 0, 1, []int64{0, 1}, []int64{2, -1}, []int64{-1, 2}), true, false}, {automatonWith(2, 0, 3, []int64{0, 1}, []int64{1, 1}), true, true},
		// 1 and 2 are one state, and so the order does not matter.
		{automatonWith(2, 0, 1, []int64{1, 2}, []int64{2, 0}, []int64{2, 0}), false, false}, {automatonWith(2, 0, 6, []int64{1, 2}, []int64{1, 1}, []int64{2, 2}), true, false}, {automatonWith(2, 0, 24, []int64{1, 2}, []int64{-1, 3}, []int64{4, -1}, []int64{-1, -1}, []int64{-1, -1}), true, false}, {automatonWith(2, 0, 8, []int64{1, 2}, []int64{-1, 3}, []int64{4, -1}, []int64{-1, -1}, []int64{-1, -1}), false, false},
		{everything(2), true, true}, {automatonWith(2, 0, 0, []int64{0, 0}), true, true}, {oneWord(2, nil), true, true}, {oneWord(2, word("aaa")), true, true}, {oneWord(2, word("ab")), false, false},
	}
	for i, c := range cases {
		is, code := impl.IsClosed(free, c.m)
		mustReport(t, "IsClosed", i, is, code, c.isClosed)
		has, code := impl.HasDiamonds(free, c.m)
		mustReport(t, "HasDiamonds", i, has, code, c.hasDiamond)
		is, code = impl.IsClosed(alphabetWith(3, 3), c.m)
		mustReport(t, "IsClosed", i, is, code, true)
	}
}

// checkCounts holds CountAccepted and ListAccepted of a closed language against the definitions for all
// numbers of letters, and against the words for small ones, and returns how many lists there are.
func checkCounts(t *testing.T, x impl.Alphabet, m impl.Automaton) int {
	t.Helper()
	counts := refCountAccepted(x, m)
	normals, lists := [][]int64{{}}, 0
	for n, want := range counts {
		shown := []any{x, m, n}
		number, code := impl.CountAccepted(x, m, int64(n))
		mustBeNumber(t, "CountAccepted", shown, number, code, want)
		list, code := impl.ListAccepted(x, m, int64(n))
		if want > 64 {
			mustFailLists(t, "ListAccepted", shown, list, code, impl.ErrLimit)
			continue
		}
		if lists++; code != impl.ErrNone || int64(len(list)) != want {
			t.Errorf("ListAccepted(%v) = %v, %d, and there are %d", shown, list, code, want)
		}
		for i, w := range list {
			if !refIsWord(x, w) || len(w) != n || !isNormal(x, w) || !refAccepts(m, w) || i > 0 && slices.Compare(list[i-1], w) >= 0 {
				t.Errorf("ListAccepted(%v) = %v", shown, list)
			}
		}
		if len(normals) < 200 { // otherwise their number and these checks must do
			want := slices.DeleteFunc(slices.Clone(normals), func(w []int64) bool { return !refAccepts(m, w) })
			mustBeLists(t, "ListAccepted", shown, list, code, want)
		}
		if len(normals) < 200 {
			normals = longerNormals(x, normals)
		}
	}
	return lists
}

func TestNumbersOfAcceptedTraces(t *testing.T) {
	t.Parallel()
	lists, failed, different := 0, 0, map[string]bool{}
	x := numbers(1130)
	for range 2 {
		overAlphabets(x, someAlphabets(&x), func(x *numbers, y impl.Alphabet, m impl.Automaton) {
			if _, isOpen := refOpenWord(y, m); isOpen {
				n := int64(x.below(21))
				number, code := impl.CountAccepted(y, m, n)
				mustCount(t, "CountAccepted", []any{y, m}, number, code, 0, impl.ErrState)
				list, code := impl.ListAccepted(y, m, n)
				mustFailLists(t, "ListAccepted", []any{y, m}, list, code, impl.ErrState)
				failed++
			} else if len(refSteps(y)) < 100 {
				lists += checkCounts(t, y, m)
				different[key(refCountAccepted(y, m))] = true
			}
		})
	}
	if lists < 5000 || failed < 150 || len(different) < 200 {
		t.Errorf("only %d lists, %d languages that are open, and %d sequences of numbers", lists, failed, len(different))
	}
}

func TestNumbersOfSmallAutomata(t *testing.T) {
	t.Parallel()
	for _, c := range [][3]int{{0, 1, 1}, {0, 2, 1}, {1, 2, 1}, {1, 3, 29}, {2, 1, 1}, {2, 2, 7}, {3, 1, 1}, {3, 2, 211}} {
		allAutomata(c[0], c[1], c[2], func(m impl.Automaton) {
			for _, x := range allAlphabetsOf(c[0]) {
				if _, isOpen := refOpenWord(x, m); !isOpen {
					checkCounts(t, x, m)
				}
			}
		})
	}
}

func TestEdgesOfNumbers(t *testing.T) {
	dependent, three := alphabetWith(complete(8)...), alphabetWith(complete(3)...)
	number, code := impl.CountAccepted(dependent, everything(8), 20)
	mustBeNumber(t, "CountAccepted", "all words of 8 letters", number, code, 1<<60)
	list, code := impl.ListAccepted(dependent, everything(8), 2)
	mustBeLists(t, "ListAccepted", "all words of 8 letters", list, code, allWords(8, 2))
	if len(list) != 64 {
		t.Errorf("there are %d words", len(list))
	}
	// The words of a and b, and those of c, or of those without a second c.
	and, cOnly := automatonWith(3, 0, 7, []int64{1, 1, 2}, []int64{1, 1, -1}, []int64{-1, -1, 2}), automatonWith(3, 0, 3, []int64{1, 1, -1}, []int64{1, 1, -1})
	for _, c := range []struct {
		m    impl.Automaton
		want int64
	}{{and, 65}, {cOnly, 64}} {
		number, code = impl.CountAccepted(three, c.m, 6)
		mustBeNumber(t, "CountAccepted", c.m, number, code, c.want)
		list, code = impl.ListAccepted(three, c.m, 6)
		want := slices.DeleteFunc(allWords(3, 6), func(w []int64) bool { return !refAccepts(c.m, w) })
		mustBeListsOrFail(t, "ListAccepted", c.m, list, code, want, codeIf(c.want <= 64, impl.ErrLimit))
	}
	// Each of these traces has many words.
	wide := alphabetWith(antichain(8)...)
	number, code = impl.CountAccepted(wide, everything(8), 20)
	mustBeNumber(t, "CountAccepted", "all words of independent letters", number, code, 888030)
	list, code = impl.ListAccepted(wide, everything(8), 1)
	mustBeLists(t, "ListAccepted", "all words of independent letters", list, code, allWords(8, 1))
	list, code = impl.ListAccepted(wide, everything(8), 2)
	mustBeLists(t, "ListAccepted", "all words of independent letters", list, code, normalsOfClasses(wide, 2))
	list, code = impl.ListAccepted(alphabetWith(1, 2), everything(2), 20)
	mustBeNumber(t, "ListAccepted", "a and b", int64(len(list)), code, 21)
	for _, x := range evenAlphabets() {
		number, code = impl.CountAccepted(x, everything(8), 0)
		mustBeNumber(t, "CountAccepted", x, number, code, 1)
		list, code = impl.ListAccepted(x, everything(8), 0)
		mustBeLists(t, "ListAccepted", x, list, code, [][]int64{{}})
		nothing := automatonWith(8, 0, 0, make([]int64, 8))
		for n := range int64(21) {
			number, code = impl.CountAccepted(x, nothing, n)
			mustBeNumber(t, "CountAccepted", x, number, code, 0)
			list, code = impl.ListAccepted(x, nothing, n)
			mustBeLists(t, "ListAccepted", x, list, code, nil)
		}
	}
	for n := range int64(21) {
		number, code = impl.CountAccepted(impl.Alphabet{}, everything(0), n)
		mustBeNumber(t, "CountAccepted", n, number, code, int64(oneIf(n == 0)))
		list, code = impl.ListAccepted(alphabetWith(1), ring(16, 1<<5), n)
		want := slices.DeleteFunc([][]int64{word(times(int(n), "a"))}, func(w []int64) bool { return len(w) != 5 })
		mustBeLists(t, "ListAccepted", n, list, code, want)
	}
}

func TestNormalAutomata(t *testing.T) {
	t.Parallel()
	x := numbers(1140)
	sizes, codes := map[int]int{}, map[int64]int{}
	list := slices.Concat(testAlphabets(), allAlphabetsOf(5))
	for range 2000 {
		y := someAlphabet(&x, 8-x.below(2), 2+x.below(6))
		list = append(list, y, refComplement(y))
	}
	for _, y := range list {
		want := refNormalAutomaton(y)
		got, code := impl.NormalAutomaton(y)
		mustBeAutomaton(t, "NormalAutomaton", y, got, code, want, codeIf(len(want.Next) <= 16, impl.ErrLimit))
		sizes[len(want.Next)]++
		codes[code]++
		if code != impl.ErrNone {
			continue
		}
		for range 3 {
			w := someWord(&x, int(max(y.Letters, 1)), min(int(y.Letters)*24, 8+x.below(17)))
			for _, v := range [][]int64{w, refExtreme(y, w, 1), changedEnd(y, refExtreme(y, w, 1))} {
				is, code := impl.AcceptsWord(got, v)
				mustReport(t, "AcceptsWord", []any{y, v}, is, code, isNormal(y, v))
			}
		}
	}
	if codes[impl.ErrNone] < 1000 || codes[impl.ErrLimit] < 50 || sizes[16] < 20 || sizes[17] < 10 || sizes[1] < 5 {
		t.Errorf("there are only %v, and the sizes are %v", codes, sizes)
	}
}

// changedEnd returns a word in which the last two letters, if there are some, are exchanged.
func changedEnd(x impl.Alphabet, w []int64) []int64 {
	if len(w) < 2 {
		return w
	}
	return append(slices.Clone(w[:len(w)-2]), w[len(w)-1], w[len(w)-2])
}

func TestNormalAutomataOfKinds(t *testing.T) {
	for n := range 9 {
		// Of independent letters each one may come behind those that are not greater.
		want := automatonWith(int64(n), 0, 1<<max(n, 1)-1)
		for first := range max(n, 1) {
			row := slices.Repeat([]int64{-1}, n)
			for a := first; a < n; a++ {
				row[a] = int64(a)
			}
			want.Next = append(want.Next, row)
		}
		got, code := impl.NormalAutomaton(alphabetWith(antichain(n)...))
		mustBeAutomaton(t, "NormalAutomaton", n, got, code, want, impl.ErrNone)
	}
	for _, x := range smallAlphabets() {
		m, code := impl.NormalAutomaton(x)
		mustList(t, "NormalAutomaton", nil, code)
		for _, w := range wordsUpTo(int(x.Letters), longestFor(x.Letters)) {
			is, code := impl.AcceptsWord(m, w)
			mustReport(t, "AcceptsWord", []any{x, w}, is, code, isNormal(x, w))
		}
	}
}

func TestEdgesOfCombinations(t *testing.T) {
	// Rings with numbers of states that have no common divisor need as many states as their product.
	branch := func(n int) impl.Automaton { // accepts b so many times
		return oneWord(2, slices.Repeat([]int64{1}, n))
	}
	long := oneWord(2, word(times(15, "a")))
	cases := []struct {
		m, k impl.Automaton
		kind int64
		size int
	}{
		{ring(3, 1), ring(5, 1), impl.CombineBoth, 15}, {ring(3, 1), ring(5, 1), impl.CombineEither, 15}, {ring(3, 1), ring(5, 1), impl.CombineWithout, 15}, {ring(16, 1), ring(1, 1), impl.CombineBoth, 16}, {ring(16, 1), ring(8, 1), impl.CombineEither, 8}, {ring(16, 1), ring(8, 1), impl.CombineBoth, 16}, {ring(8, 1), ring(16, 1), impl.CombineWithout, 16},
		{long, branch(1), impl.CombineEither, 16}, {long, branch(2), impl.CombineEither, 17}, {long, branch(3), impl.CombineEither, 18}, {long, branch(15), impl.CombineEither, 30}, {long, branch(2), impl.CombineBoth, 1}, {long, branch(2), impl.CombineWithout, 16}, {branch(2), long, impl.CombineWithout, 3},
		{ring(16, 1), ring(15, 1), impl.CombineBoth, 240}, {ring(16, 1), ring(15, 1), impl.CombineEither, 240}, {ring(16, 1), ring(15, 1), impl.CombineWithout, 240}, {ring(16, 1), ring(16, 2), impl.CombineBoth, 1}, {ring(16, 1), ring(16, 2), impl.CombineEither, 16}, {ring(4, 1), ring(4, 4), impl.CombineEither, 2}, {ring(16, 1), ring(16, 1), impl.CombineWithout, 1},
	}
	for i, c := range cases {
		want := refCombine(c.m, c.k, kinds()[c.kind])
		if len(want.Next) != c.size {
			t.Errorf("the case %d has %d states", i, len(want.Next))
		}
		got, code := impl.CombineAutomata(c.m, c.k, c.kind)
		mustBeAutomaton(t, "CombineAutomata", i, got, code, want, codeIf(c.size <= 16, impl.ErrLimit))
	}
	// The words that only one of both can read to the end: a a and b, and a and b b.
	m, k := refCombine(oneWord(2, word("aa")), oneWord(2, word("b")), kinds()[1]), refCombine(oneWord(2, word("a")), oneWord(2, word("bb")), kinds()[1])
	for kind, text := range []string{"", "a b aa bb", "b aa"} {
		got, code := impl.CombineAutomata(m, k, int64(kind))
		accepted := ""
		for _, w := range wordsUpTo(2, 5) {
			if code == impl.ErrNone && refAccepts(got, w) {
				accepted += " " + refWordText(w)
			}
		}
		if accepted != text && accepted != " "+text {
			t.Errorf("CombineAutomata(%d) accepts%s", kind, accepted)
		}
	}
}

// agreeing returns sets of states of rings of two sizes without a common divisor that accept the same
// words with fewer letters than both sizes have together, less 2, but not the word with so many.
func agreeing(p, q int) (first, second int64) {
	color := make([]int, p+q-1)
	for i := range color {
		color[i] = i
	}
	for isNew := true; isNew; { // what must be equal gets the least number of its class
		isNew = false
		for i := range p + q - 2 {
			for _, k := range []int{i + p, i + q} {
				if k < p+q-2 && color[i] != color[k] {
					color[i], color[k], isNew = min(color[i], color[k]), min(color[i], color[k]), true
				}
			}
		}
	}
	for i := range p {
		first |= int64(oneIf(color[i] == color[p-2])) << i
	}
	for i := range q {
		second |= int64(oneIf(color[i] == color[p-2])) << i
	}
	return first, second
}

func TestEdgesOfDifferences(t *testing.T) {
	for p := 2; p <= 16; p++ {
		for q := p + 1; q <= 16; q++ {
			if divisor(p, q) > 1 {
				continue
			}
			first, second := agreeing(p, q)
			m, k := ring(p, first), ring(q, second)
			want, differ := refDifference(m, k)
			if !differ || len(want) != p+q-2 {
				t.Errorf("the rings of %d and %d states differ first with %v", p, q, want)
			}
			mustDiffer(t, m, k, want, true)
			mustDiffer(t, k, m, want, true)
		}
	}
	for _, c := range []struct {
		p, q int
		code int64
	}{{11, 15, impl.ErrNone}, {13, 14, impl.ErrLimit}, {12, 13, impl.ErrNone}, {15, 16, impl.ErrLimit}} {
		first, second := agreeing(c.p, c.q)
		got, code := impl.DifferenceWord(ring(c.p, first), ring(c.q, second))
		mustBeOrFail(t, "DifferenceWord", c, got, code, word(times(c.p+c.q-2, "a")), c.code)
		same, code := impl.SameLanguage(ring(c.p, first), ring(c.q, second))
		mustReport(t, "SameLanguage", c, same, code, false)
	}
	for _, c := range []struct {
		first, second []string
		text          string
	}{
		{[]string{""}, []string{"a"}, ""}, {[]string{"a"}, []string{""}, ""}, {[]string{"ab"}, []string{"ba"}, "ab"}, {[]string{"ba"}, []string{"ab"}, "ab"}, {[]string{"aab", "b"}, []string{"aab"}, "b"}, {[]string{"aab"}, []string{"aab", "b"}, "b"}, {[]string{"b", "ab", "ba"}, []string{"b", "ba", "ab", "bba", "aba"}, "aba"}, {[]string{"bbb"}, []string{"aaaa"}, "bbb"},
	} {
		lists := [2]impl.Automaton{automatonWith(2, 0, 0, []int64{0, 0}), automatonWith(2, 0, 0, []int64{0, 0})}
		for i, texts := range [][]string{c.first, c.second} {
			for _, text := range texts {
				lists[i] = refCombine(lists[i], oneWord(2, word(text)), kinds()[1])
			}
		}
		mustDiffer(t, lists[0], lists[1], word(c.text), true)
	}
}

// divisor returns the greatest common divisor.
func divisor(p, q int) int {
	for q > 0 {
		p, q = q, p%q
	}
	return p
}

func TestSameLanguages(t *testing.T) {
	t.Parallel()
	x := numbers(1150)
	for letters := range int64(9) {
		for states := 1; states <= 12; states++ {
			m := refMinimal(someAutomaton(&x, letters, states, x.below(5)))
			first, second := veiled(&x, m), veiled(&x, m)
			mustDiffer(t, first, second, nil, false)
			mustDiffer(t, m, first, nil, false)
			for _, k := range []impl.Automaton{first, second} {
				got, code := impl.MinimalAutomaton(k)
				mustBeAutomaton(t, "MinimalAutomaton", k, got, code, m, impl.ErrNone)
			}
			other := changedAutomaton(&x, second)
			w, differ := refDifference(first, other)
			mustDiffer(t, first, other, w, differ)
		}
	}
}

// has reports whether a function has an argument with a name.
func (c automatonCall) has(name rune) bool { return strings.ContainsRune(c.arguments, name) }

// mustRefuse reports an error unless a call returns this code alone.
func (c automatonCall) mustRefuse(t *testing.T, shown any, q question, code int64) {
	t.Helper()
	got, gotCode := c.call(q)
	mustFailLists(t, c.name, shown, got, gotCode, code)
}

// goodQuestions returns arguments that no function refuses with ErrInvalid or ErrRange, for which most
// other errors would come: of languages that are not closed, that differ late, and that many states need.
func goodQuestions() []question {
	three := alphabetWith(1|4, 2|4, 7)
	return []question{
		{x: square(), m: everything(4), k: oneWord(4, word("abcd")), w: word("abcd"), n: 2}, {x: square(), m: everything(4), k: everything(4), w: nil, n: 0}, {x: alphabetWith(antichain(8)...), m: oneWord(8, word("hgfedcba")), k: oneWord(8, word("abcdefghabcdefg")), w: word("hgfedcbahgfedcbahgfedcba"), n: 1},
		{x: alphabetWith(complete(8)...), m: everything(8), k: oneWord(8, nil), w: word("a"), n: 2}, {x: three, m: chainWith(14, 14, 0, 14), k: chainWith(14, 13, 0, 14), w: word("ab"), n: 1}, {x: three, m: chainWith(14, 14, 0, 14), k: everything(3), w: word("cccc"), n: 0},
		{x: alphabetWith(1), m: ring(16, 1), k: ring(15, 1), w: word("a"), n: 1}, {x: alphabetWith(1), m: ring(16, 0x5555), k: ring(2, 1), w: word(times(24, "a")), n: 2},
	}
}

// wrongNumbers returns numbers that are neither numbers of letters nor kinds.
func wrongNumbers() []int64 {
	return []int64{-1, -2, -20, 21, 22, 1 << 32, 1<<32 + 1, math.MaxInt64, math.MinInt64}
}

// otherLetters returns automata with another number of letters.
func otherLetters(letters int64) []impl.Automaton {
	list := []impl.Automaton{oneWord((letters+1)%9, nil)}
	for n := range int64(9) {
		if n != letters {
			list = append(list, everything(n))
		}
	}
	return list
}

func TestInvalidArgumentsOfAutomata(t *testing.T) {
	for i, q := range goodQuestions() {
		for _, c := range automatonCalls() {
			if _, code := c.call(q); code == impl.ErrInvalid || code == impl.ErrRange {
				t.Errorf("%s returns %d in the case %d", c.name, code, i)
			}
			// With good arguments, and with others that are out of their ranges.
			far := q
			far.w, far.n = notWords(q.m.Letters)[i], wrongNumbers()[i]
			for _, r := range []question{q, far} {
				for _, wrong := range notAutomata(q.m.Letters) {
					first, second := r, r
					first.m, second.k = wrong, wrong
					if c.has('m') {
						c.mustRefuse(t, i, first, impl.ErrInvalid)
					}
					if c.has('k') {
						c.mustRefuse(t, i, second, impl.ErrInvalid)
						second.m = otherLetters(q.m.Letters)[0]
						c.mustRefuse(t, i, second, impl.ErrInvalid)
					}
				}
				for _, wrong := range notAlphabets() {
					none := r
					none.x = wrong
					if c.has('x') {
						c.mustRefuse(t, i, none, impl.ErrInvalid)
					}
					none.m = otherLetters(q.m.Letters)[0]
					if c.has('x') {
						c.mustRefuse(t, i, none, impl.ErrInvalid)
					}
				}
			}
		}
	}
}

func TestRangesOfAutomata(t *testing.T) {
	for i, q := range goodQuestions() {
		for _, c := range automatonCalls() {
			for _, w := range notWords(q.m.Letters) {
				r := q
				r.w = w
				if c.has('w') {
					c.mustRefuse(t, i, r, impl.ErrRange)
				}
			}
			for _, n := range append(wrongNumbers(), 3, 4, 20) {
				r := q
				r.n = n
				if c.has('n') && (c.has('k') || n < 0 || n > 20) {
					c.mustRefuse(t, i, r, impl.ErrRange)
				}
			}
			for _, m := range otherLetters(q.m.Letters) {
				first, second := q, q
				first.m, second.k = m, m
				if c.has('m') && (c.has('x') || c.has('k')) {
					c.mustRefuse(t, i, first, impl.ErrRange)
				}
				if c.has('k') {
					c.mustRefuse(t, i, second, impl.ErrRange)
				}
			}
		}
	}
}

func TestOrderOfErrorsOfAutomata(t *testing.T) {
	// ErrState, ErrLimit and ErrNotFound come behind ErrRange, and ErrState before ErrLimit.
	dependent, wide := alphabetWith(complete(8)...), alphabetWith(antichain(8)...)
	many := everything(8)
	many.Next = append(many.Next, slices.Repeat([]int64{1}, 8))
	many.Next[0] = []int64{1, 0, 0, 0, 0, 0, 0, 0} // closed over dependent, and over wide too
	open := automatonWith(8, 0, 1, []int64{0, 0, 0, 0, 0, 0, 0, 1}, []int64{0, 1, 1, 1, 1, 1, 1, 1})
	cases := []struct {
		name      string
		got, want int64
	}{
		{"ListAccepted", second(impl.ListAccepted(dependent, many, 3)), impl.ErrLimit}, {"ListAccepted", second(impl.ListAccepted(dependent, many, 21)), impl.ErrRange}, {"ListAccepted", second(impl.ListAccepted(dependent, many, -1)), impl.ErrRange}, {"ListAccepted", second(impl.ListAccepted(dependent, open, 20)), impl.ErrLimit},
		{"ListAccepted", second(impl.ListAccepted(wide, open, 20)), impl.ErrState}, {"ListAccepted", second(impl.ListAccepted(wide, open, 0)), impl.ErrState}, {"ListAccepted", second(impl.ListAccepted(wide, open, 21)), impl.ErrRange}, {"CountAccepted", second(impl.CountAccepted(wide, open, 20)), impl.ErrState}, {"CountAccepted", second(impl.CountAccepted(wide, open, 21)), impl.ErrRange}, {"CountAccepted", second(impl.CountAccepted(dependent, open, 20)), impl.ErrNone},
		{"CombineAutomata", second(impl.CombineAutomata(ring(16, 1), ring(15, 1), 3)), impl.ErrRange}, {"CombineAutomata", second(impl.CombineAutomata(ring(16, 1), ring(15, 1), 2)), impl.ErrLimit}, {"CombineAutomata", second(impl.CombineAutomata(ring(16, 1), ring(15, 1), -1)), impl.ErrRange},
		{"DiamondFault", second(impl.DiamondFault(wide, everything(8))), no}, {"DiamondFault", second(impl.DiamondFault(wide, everything(7))), impl.ErrRange}, {"DifferenceWord", second(impl.DifferenceWord(everything(7), everything(7))), no}, {"DifferenceWord", second(impl.DifferenceWord(everything(7), everything(8))), impl.ErrRange},
		{"ReadWord", second(impl.ReadWord(oneWord(2, nil), word("a"))), no}, {"ReadWord", second(impl.ReadWord(oneWord(2, nil), word("ac"))), impl.ErrRange}, {"ReadWord", second(impl.ReadWord(oneWord(2, nil), make([]int64, 25))), impl.ErrRange},
	}
	for i, c := range cases {
		if c.got != c.want {
			t.Errorf("%s returns %d in the case %d, and not %d", c.name, c.got, i, c.want)
		}
	}
}

// separated reports whether some word tells two states of an automaton apart, as DifferenceWord finds.
func separated(t *testing.T, m impl.Automaton, s, u int64) bool {
	t.Helper()
	first, second := m, m
	first.Start, second.Start = s, u
	w, code := impl.DifferenceWord(first, second)
	if code == no {
		return false
	}
	mustList(t, "DifferenceWord", w, code)
	if refAccepts(first, w) == refAccepts(second, w) || len(w) >= len(m.Next) {
		t.Errorf("DifferenceWord(%v) from %d and %d is %v", m, s, u, w)
	}
	return true
}

func TestPromise11OnMinimalAutomata(t *testing.T) {
	t.Parallel()
	pairs := 0
	largeAutomata(1160, func(x *numbers, m impl.Automaton) {
		minimal, code := impl.MinimalAutomaton(m)
		mustList(t, "MinimalAutomaton", nil, code)
		same, code := impl.SameLanguage(m, minimal)
		mustReport(t, "SameLanguage", []any{m, minimal}, same, code, true)
		for range 10 {
			w := someWord(x, int(max(m.Letters, 1)), min(x.below(25), int(m.Letters)*24))
			is, code := impl.AcceptsWord(minimal, w)
			mustReport(t, "AcceptsWord", []any{minimal, w}, is, code, refAccepts(m, w))
		}
		useful, code := impl.UsefulStates(minimal)
		mustCount(t, "UsefulStates", minimal, useful, code, int64(oneIf(minimal.Final > 0))*(1<<len(minimal.Next)-1), impl.ErrNone)
		for s := range int64(len(minimal.Next)) {
			for u := range s {
				if x.below(4) == 0 {
					pairs++
					if !separated(t, minimal, s, u) {
						t.Errorf("no word tells the states %d and %d of %v apart", u, s, minimal)
					}
				}
			}
		}
	})
	if pairs < 3000 {
		t.Errorf("there are only %d pairs", pairs)
	}
}

func TestPromise11OnWords(t *testing.T) {
	t.Parallel()
	x := numbers(1170)
	opened, differ := 0, 0
	overAlphabets(x, someAlphabets(&x), func(x *numbers, y impl.Alphabet, m impl.Automaton) {
		w, place, code := impl.OpenWord(y, m)
		is, closedCode := impl.IsClosed(y, m)
		mustReport(t, "IsClosed", []any{y, m}, is, closedCode, code == no)
		if code == impl.ErrNone {
			v := slices.Clone(w)
			v[place], v[place+1] = w[place+1], w[place]
			first, code := impl.AcceptsWord(m, w)
			mustReport(t, "AcceptsWord", w, first, code, true)
			second, code := impl.AcceptsWord(m, v)
			mustReport(t, "AcceptsWord", v, second, code, false)
			same, code := impl.AreSameTrace(y, w, v)
			mustReport(t, "AreSameTrace", w, same, code, true)
			opened++
		}
		k := changedAutomaton(x, m)
		d, code := impl.DifferenceWord(m, k)
		if code == impl.ErrNone {
			first, code := impl.AcceptsWord(m, d)
			second, secondCode := impl.AcceptsWord(k, d)
			mustReport(t, "AcceptsWord", d, second, secondCode, !first)
			mustList(t, "AcceptsWord", nil, code)
			differ++
		}
		same, sameCode := impl.SameLanguage(m, k)
		mustReport(t, "SameLanguage", []any{m, k}, same, sameCode, code == no)
	})
	if opened < 50 || differ < 50 {
		t.Errorf("only %d languages are open, and %d pairs differ", opened, differ)
	}
}

func TestPromise11OnCombinations(t *testing.T) {
	t.Parallel()
	x := numbers(1180)
	combined := 0
	for letters := range int64(9) {
		for range 30 {
			m, k := someAutomaton(&x, letters, 1+x.below(5), x.below(4)), someAutomaton(&x, letters, 1+x.below(4), x.below(4))
			var got [4]impl.Automaton
			var codes [4]int64
			for kind := range int64(3) {
				got[kind], codes[kind] = impl.CombineAutomata(m, k, kind)
			}
			if slices.Contains(codes[:], impl.ErrLimit) {
				continue
			}
			for range 20 {
				w := someWord(&x, int(max(letters, 1)), min(x.below(12), int(letters)*24))
				for kind, accepts := range kinds() {
					is, code := impl.AcceptsWord(got[kind], w)
					mustReport(t, "AcceptsWord", []any{m, k, kind, w}, is, code, accepts(refAccepts(m, w), refAccepts(k, w)))
				}
			}
			// What m has without k and what both have is together what m has.
			all, code := impl.CombineAutomata(got[impl.CombineWithout], got[impl.CombineBoth], impl.CombineEither)
			mustBeAutomaton(t, "CombineAutomata", []any{m, k}, all, code, refMinimal(m), impl.ErrNone)
			combined++
		}
	}
	if combined < 150 {
		t.Errorf("only %d pairs are combined", combined)
	}
}

func TestPromise29OnDiamonds(t *testing.T) {
	t.Parallel()
	closed, open, diamonds := 0, 0, 0
	x := numbers(1190)
	for range 3 {
		overAlphabets(x, someAlphabets(&x), func(x *numbers, y impl.Alphabet, m impl.Automaton) {
			isClosed, code := impl.IsClosed(y, m)
			mustList(t, "IsClosed", nil, code)
			minimal, code := impl.MinimalAutomaton(m)
			mustList(t, "MinimalAutomaton", nil, code)
			has, code := impl.HasDiamonds(y, minimal)
			mustReport(t, "HasDiamonds", []any{y, minimal}, has, code, isClosed)
			if has, code = impl.HasDiamonds(y, m); has {
				diamonds++
				if !isClosed {
					t.Errorf("%v has diamonds over %v, but is not closed", m, y)
				}
			}
			closed += oneIf(isClosed)
			open += oneIf(!isClosed)
			// Words of one trace are accepted together; those that are open show the rest.
			for range 5 {
				w := someWord(x, int(max(y.Letters, 1)), min(x.below(9), int(y.Letters)*24))
				if v := exchanged(x, y, w, 5); isClosed && refAccepts(m, w) != refAccepts(m, v) {
					t.Errorf("%v accepts one of %v and %v over %v", m, w, v, y)
				}
			}
		})
	}
	if closed < 500 || open < 200 || diamonds < 300 {
		t.Errorf("only %d languages are closed and %d are open, and %d automata have diamonds", closed, open, diamonds)
	}
}

func TestPromise30OnAllWords(t *testing.T) {
	t.Parallel()
	x := numbers(1200)
	listed, limited := 0, 0
	for _, y := range slices.Concat(someAlphabets(&x), allAlphabetsOf(5)[:200]) {
		all := everything(y.Letters)
		dependent := alphabetWith(complete(int(y.Letters))...)
		normal, normalCode := impl.NormalAutomaton(y)
		for n := range int64(21) {
			number, code := impl.CountAccepted(y, all, n)
			mustList(t, "CountAccepted", nil, code)
			counted, code := impl.CountTraces(y, n)
			mustCount(t, "CountTraces", []any{y, n}, counted, code, number, codeIf(number <= impl.MaxCount, impl.ErrLimit))
			limited += oneIf(code == impl.ErrLimit)
			if normalCode == impl.ErrNone { // all words depend on their order here, so that each normal form is a trace
				words, code := impl.CountAccepted(dependent, normal, n)
				mustBeNumber(t, "CountAccepted", []any{y, normal, n}, words, code, number)
			}
			if number <= 64 {
				list, code := impl.ListAccepted(y, all, n)
				want, wantCode := impl.TracesOfLength(y, n)
				mustBeLists(t, "ListAccepted", []any{y, n}, list, code, want)
				mustBeNumber(t, "TracesOfLength", []any{y, n}, int64(len(want)), wantCode, number)
				listed++
			}
		}
	}
	if listed < 1000 || limited < 20 {
		t.Errorf("only %d lists, and %d numbers are too great", listed, limited)
	}
}

func TestPromise30OnClosedLanguages(t *testing.T) {
	t.Parallel()
	x := numbers(1210)
	counted, listed := 0, 0
	for range 2 {
		overAlphabets(x, someAlphabets(&x), func(x *numbers, y impl.Alphabet, m impl.Automaton) {
			dependent := alphabetWith(complete(int(y.Letters))...)
			normal, normalCode := impl.NormalAutomaton(y)
			if isClosed, _ := impl.IsClosed(y, m); !isClosed || normalCode != impl.ErrNone {
				return
			}
			accepted, acceptedCode := impl.CombineAutomata(m, normal, impl.CombineBoth)
			for n := range int64(21) {
				number, code := impl.CountAccepted(y, m, n)
				mustList(t, "CountAccepted", nil, code)
				list, code := impl.ListAccepted(y, m, n)
				if number > 64 {
					mustFailLists(t, "ListAccepted", nil, list, code, impl.ErrLimit)
				} else {
					mustBeNumber(t, "ListAccepted", []any{y, m, n}, int64(len(list)), code, number)
					listed++
				}
				if acceptedCode == impl.ErrNone {
					forms, code := impl.CountAccepted(dependent, accepted, n)
					mustBeNumber(t, "CountAccepted", []any{y, m, n}, forms, code, number)
					counted++
				}
			}
		})
	}
	if counted < 5000 || listed < 5000 {
		t.Errorf("only %d numbers are those of normal forms, and %d those of lists", counted, listed)
	}
}

// slowAutomata returns automata over 8 letters with 16 states that much can be found about.
func slowAutomata() []impl.Automaton {
	x := numbers(1220)
	var list []impl.Automaton
	for _, turn := range []int64{0, 1, 5} {
		m, k := automatonWith(8, 0, 1<<15), automatonWith(8, 0, 1<<16-1)
		for s := range int64(16) {
			row := []int64{}
			for a := range int64(8) {
				row = append(row, (s+1+a*turn)%16)
			}
			m.Next, k.Next = append(m.Next, row), append(k.Next, slices.Clone(row))
		}
		k.Next[15][7], k.Next[3][0] = -1, 9
		list = append(list, m, k)
	}
	for _, rare := range []int{0, 0, 3, 10, 100} {
		list = append(list, someAutomaton(&x, 8, 16, rare))
	}
	return append(list, everything(8), automatonWith(8, 15, 1, slices.Repeat([][]int64{{15, 14, 13, 12, 11, 10, 9, 8}}, 16)...))
}

func TestAutomataAreFast(t *testing.T) {
	t.Parallel()
	path := alphabetWhere(8, func(i, k int) bool { return i == k+1 })
	list := slowAutomata()
	for _, x := range []impl.Alphabet{alphabetWith(antichain(8)...), alphabetWith(complete(8)...), path, refComplement(path)} {
		for i, m := range list {
			for _, c := range automatonCalls() {
				for _, n := range []int64{0, 1, 2, 20}[3*oneIf(!c.has('n')):] {
					q := question{x, m, list[(i+3)%len(list)], word("hgfedcbahgfedcbahgfedcba"), n}
					within(t, c.name, func() { c.call(q) })
				}
			}
		}
	}
	huge, row := make([]int64, 5000000), make([]int64, 8)
	wide := alphabetWith(antichain(8)...)
	large := []impl.Automaton{automatonWith(8, 0, 0, make([][]int64, 5000000)...), automatonWith(8, 0, 0, slices.Repeat([][]int64{row}, 1000000)...), automatonWith(8, 0, 0, huge), automatonWith(math.MaxInt64, math.MaxInt64, math.MaxInt64, huge)}
	for _, m := range append(large, everything(8)) {
		for _, n := range []int64{0, 20, math.MaxInt64} {
			for _, c := range automatonCalls() {
				within(t, c.name, func() { c.call(question{wide, m, everything(8), huge, n}) })
				within(t, c.name, func() { c.call(question{wide, everything(8), m, huge, n}) })
				within(t, c.name, func() { c.call(question{alphabetWith(huge...), m, m, nil, n}) })
			}
			within(t, "IsAutomaton", func() { impl.IsAutomaton(m) })
		}
	}
}

// spaciousAutomaton returns a copy of an automaton, with capacity behind all its lists, and a function
// that reports whether it is as it was.
func spaciousAutomaton(m impl.Automaton) (impl.Automaton, func() bool) {
	next, areKept := spaciousLists(m.Next)
	m.Next = next
	return m, areKept
}

func TestAutomataShareNoMemory(t *testing.T) {
	x := numbers(1230)
	list := []impl.Automaton{everything(4), oneWord(4, word("cabd")), automatonWith(4, 0, 0, make([]int64, 4)), automatonWith(4, 1, 3, []int64{1, 1, 0, 0}, []int64{0, 0, 1, -1})}
	for range 4 {
		list = append(list, refMinimal(someAutomaton(&x, 4, 5, 4)), veiled(&x, someClosed(&x, square())))
	}
	for _, first := range list {
		for i, second := range list {
			depends, isDependsKept := spacious(square().Depends)
			w, isWordKept := spacious(someWord(&x, 4, i))
			m, isFirstKept := spaciousAutomaton(first)
			k, isSecondKept := spaciousAutomaton(second)
			areKept := func() bool { return isDependsKept() && isWordKept() && isFirstKept() && isSecondKept() }
			impl.IsAutomaton(m)
			for n := range int64(4) {
				q := question{impl.Alphabet{Letters: 4, Depends: depends}, m, k, w, n}
				for _, c := range automatonCalls() {
					checkFresh(t, c.name+" of "+key(q), areKept, func() ([][]int64, int64) { return c.call(q) })
				}
			}
		}
	}
}

func TestRowsOfAutomataShareNoMemory(t *testing.T) {
	// The list of the rows is a list of its own as well.
	m := automatonWith(2, 0, 1, []int64{1, 1}, []int64{0, 1})
	for _, call := range []func() (impl.Automaton, int64){
		func() (impl.Automaton, int64) { return impl.MinimalAutomaton(m) },
		func() (impl.Automaton, int64) { return impl.CombineAutomata(m, m, impl.CombineBoth) },
		func() (impl.Automaton, int64) { return impl.NormalAutomaton(alphabetWith(1, 2)) },
	} {
		got, code := call()
		want, _ := call()
		clear(got.Next[:cap(got.Next)])
		again, againCode := call()
		mustBeAutomaton(t, "an automaton", code, again, againCode, want, impl.ErrNone)
		if !areEqualLists(m.Next, [][]int64{{1, 1}, {0, 1}}) {
			t.Errorf("the rows of the argument are %v", m.Next)
		}
	}
}
