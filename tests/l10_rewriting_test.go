package tests

import (
	"cmp"
	"math"
	"slices"
	"strings"
	"testing"

	"loop.example/g01094/impl"
)

// systemCall is a function of chapter 10 from an alphabet, rules and a word, as a function to lists,
// none if the result beside the code is the zero value.
type systemCall struct {
	name string
	call func(x impl.Alphabet, rules []impl.Rule, w []int64) ([][]int64, int64)
}

// redexLists returns three lists for each redex.
func redexLists(redexes []impl.Redex) [][]int64 {
	var lists [][]int64
	for _, r := range redexes {
		lists = append(lists, []int64{r.Rule}, r.Before, r.Behind)
	}
	return lists
}

// ruleLists returns two lists for each rule.
func ruleLists(rules []impl.Rule) [][]int64 {
	var lists [][]int64
	for _, rule := range rules {
		lists = append(lists, rule.Left, rule.Right)
	}
	return lists
}

// redexesCall turns RedexesOf into a function to lists.
func redexesCall(x impl.Alphabet, rules []impl.Rule, w []int64) ([][]int64, int64) {
	got, code := impl.RedexesOf(x, rules, w)
	return redexLists(got), code
}

// reduceCall turns ReduceFirst into a function to lists, none if trace and number are the zero values.
func reduceCall(x impl.Alphabet, rules []impl.Rule, w []int64) ([][]int64, int64) {
	got, applied, code := impl.ReduceFirst(x, rules, w)
	if len(got) == 0 && applied == 0 {
		return nil, code
	}
	return [][]int64{got, {applied}}, code
}

// oneResult turns a list into lists, none if it is empty.
func oneResult(got []int64, code int64) ([][]int64, int64) {
	if len(got) == 0 {
		return nil, code
	}
	return [][]int64{got}, code
}

// oneTruth turns a truth value into lists, none if it is false.
func oneTruth(is bool, code int64) ([][]int64, int64) {
	if !is {
		return nil, code
	}
	return [][]int64{{1}}, code
}

// wordsCalls returns the functions that are given words, with another word for AreJoinable and a redex.
func wordsCalls(v []int64, r impl.Redex) []systemCall {
	return []systemCall{
		{"RedexesOf", redexesCall}, {"ReduceFirst", reduceCall}, {"ReductsOf", impl.ReductsOf}, {"IrreducibleForms", impl.IrreducibleForms},
		{"ApplyRedex", func(x impl.Alphabet, rules []impl.Rule, w []int64) ([][]int64, int64) {
			return oneResult(impl.ApplyRedex(x, rules, w, r))
		}},
		{"IsIrreducible", func(x impl.Alphabet, rules []impl.Rule, w []int64) ([][]int64, int64) {
			return oneTruth(impl.IsIrreducible(x, rules, w))
		}},
		{"AreJoinable", func(x impl.Alphabet, rules []impl.Rule, w []int64) ([][]int64, int64) {
			return oneTruth(impl.AreJoinable(x, rules, w, v))
		}},
		{"AreJoinable", func(x impl.Alphabet, rules []impl.Rule, w []int64) ([][]int64, int64) {
			return oneTruth(impl.AreJoinable(x, rules, v, w))
		}},
	}
}

// lettersCalls returns the functions that are given a number of letters, whatever the word is.
func lettersCalls(n int64) []systemCall {
	return []systemCall{
		{"FirstSplit", func(x impl.Alphabet, rules []impl.Rule, w []int64) ([][]int64, int64) {
			return oneResult(impl.FirstSplit(x, rules, n))
		}},
		{"CompleteTo", func(x impl.Alphabet, rules []impl.Rule, w []int64) ([][]int64, int64) {
			got, code := impl.CompleteTo(x, rules, n)
			return ruleLists(got), code
		}},
		{"CountIrreducible", func(x impl.Alphabet, rules []impl.Rule, w []int64) ([][]int64, int64) {
			number, code := impl.CountIrreducible(x, rules, n)
			return oneResult(slices.DeleteFunc([]int64{number}, func(number int64) bool { return number == 0 }), code)
		}},
	}
}

// mustReduce reports an error unless ReduceFirst returned this trace and number, and ErrNone.
func mustReduce(t *testing.T, x impl.Alphabet, rules []impl.Rule, w, want []int64, applied int64) {
	t.Helper()
	got, number, code := impl.ReduceFirst(x, rules, w)
	if code != impl.ErrNone || !slices.Equal(got, want) || number != applied {
		t.Errorf("ReduceFirst(%v, %v, %v) = %v, %d, %d, and not %v, %d", x, rules, w, got, number, code, want, applied)
	}
}

// mustBeRedexes reports an error unless a call returned these redexes and ErrNone.
func mustBeRedexes(t *testing.T, argument any, got []impl.Redex, code int64, want []impl.Redex) {
	t.Helper()
	mustBeLists(t, "RedexesOf", argument, redexLists(got), code, redexLists(want))
}

// mustBeRulesOrFail reports an error unless CompleteTo returned these rules and ErrNone, or another code
// alone.
func mustBeRulesOrFail(t *testing.T, arguments any, got []impl.Rule, code int64, want []impl.Rule, expected int64) {
	t.Helper()
	mustBeListsOrFail(t, "CompleteTo", arguments, ruleLists(got), code, ruleLists(want), expected)
}

func TestConstantOfRewriting(t *testing.T) {
	if impl.MaxRules != 12 {
		t.Errorf("MaxRules is %d", impl.MaxRules)
	}
}

func TestExamplesOfRewriting(t *testing.T) {
	x, rules, w := square(), rulesOf("ac", "b"), word("cabac")
	if !impl.IsSystem(x, rules) || impl.IsSystem(x, rulesOf("ac", "bd")) {
		t.Errorf("IsSystem is wrong for the examples")
	}
	redexes, code := impl.RedexesOf(x, rules, w)
	mustBeRedexes(t, "cabac", redexes, code, []impl.Redex{{Rule: 0, Behind: word("bac")}, {Rule: 0, Before: word("acb")}})
	mustReduce(t, x, rules, w, word("bbb"), 2)
	free, system := alphabetWith(3, 3), rulesOf("ab", "", "ba", "a")
	split, code := impl.FirstSplit(free, system, 3)
	mustBe(t, "FirstSplit", nil, split, code, word("aba"))
	forms, code := impl.IrreducibleForms(free, system, word("aba"))
	mustBeLists(t, "IrreducibleForms", "aba", forms, code, words("a", "aa"))
	all, code := impl.CompleteTo(free, system, 3)
	mustBeRulesOrFail(t, system, all[:min(len(all), 3)], code, rulesOf("ab", "", "ba", "a", "aa", "a"), impl.ErrNone)
}

// mustBeSystem reports an error unless IsSystem tells whether rules are a system.
func mustBeSystem(t *testing.T, x impl.Alphabet, rules []impl.Rule, want bool) {
	t.Helper()
	if got := impl.IsSystem(x, rules); got != want {
		t.Errorf("IsSystem(%v, %d rules from %v on) = %v", x, len(rules), rules[:min(len(rules), 3)], got)
	}
}

func TestIsSystem(t *testing.T) {
	for n := range 4 {
		x := alphabetWith(antichain(n)...)
		var sides [][]int64
		for _, w := range wordsUpTo(n+2, 2) {
			for i := range w {
				w[i]-- // so that -1 and n, which are no letters, occur
			}
			sides = append(sides, w)
		}
		for _, left := range sides {
			for _, right := range sides {
				rule := impl.Rule{Left: left, Right: right}
				mustBeSystem(t, x, []impl.Rule{rule}, refIsSystem(x, []impl.Rule{rule}))
				if n > 0 { // behind and before another one
					good := impl.Rule{Left: word("aaa")}
					mustBeSystem(t, x, []impl.Rule{good, rule}, refIsSystem(x, []impl.Rule{rule}))
					mustBeSystem(t, x, []impl.Rule{rule, good, good}, refIsSystem(x, []impl.Rule{rule}))
				}
			}
		}
	}
}

func TestRulesOfAllLengths(t *testing.T) {
	for _, x := range append(evenAlphabets(), smallAlphabets()...) {
		mustBeSystem(t, x, nil, true)
		mustBeSystem(t, x, []impl.Rule{}, true)
		mustBeSystem(t, x, make([]impl.Rule, 1), false)
		for _, w := range notWords(x.Letters) {
			mustBeSystem(t, x, []impl.Rule{{Left: w}}, false)
			mustBeSystem(t, x, []impl.Rule{{Left: w, Right: w[1:]}}, false)
			mustBeSystem(t, x, []impl.Rule{{Left: make([]int64, 24), Right: w}}, false)
		}
		if x.Letters == 0 {
			continue
		}
		last := slices.Repeat([]int64{x.Letters - 1}, 26)
		for left := range 27 {
			for right := range 27 {
				rule := impl.Rule{Left: last[:left], Right: last[:right]}
				mustBeSystem(t, x, []impl.Rule{rule}, left <= 24 && right < left)
			}
		}
		for _, size := range []int{1, 2, 11, 12, 13, 14, 24, 1000} {
			rules := slices.Repeat(rulesOf("aa", "a"), size) // which may be equal
			mustBeSystem(t, x, rules, size <= 12)
			for _, rule := range []impl.Rule{{Left: word("a"), Right: word("a")}, {Left: []int64{x.Letters}}, {}} {
				rules[size-1] = rule
				mustBeSystem(t, x, rules, false)
			}
		}
	}
	for _, x := range notAlphabets() {
		for _, rules := range [][]impl.Rule{nil, rulesOf("a", ""), {{Left: []int64{-1}}}, make([]impl.Rule, 13)} {
			mustBeSystem(t, x, rules, false)
		}
	}
}

// shortRules returns all rules of n letters whose Left has at most so many letters.
func shortRules(n, length int) []impl.Rule {
	var rules []impl.Rule
	sides := wordsUpTo(n, length)
	for _, left := range sides {
		for _, right := range sides {
			if len(right) < len(left) {
				rules = append(rules, impl.Rule{Left: left, Right: right})
			}
		}
	}
	return rules
}

// chosen returns so many of the rules of a list.
func chosen(x *numbers, rules []impl.Rule, size int) []impl.Rule {
	var some []impl.Rule
	for range size {
		some = append(some, rules[x.below(len(rules))])
	}
	return some
}

// shortSystems calls a function with systems of all alphabets of n letters, and their traces with at
// most so many letters: all systems of one rule whose Left is short, and for each size some others.
func shortSystems(t *testing.T, n, length, left int, numbersOf map[int]int, call func(x *numbers, s *shortSystem)) {
	t.Helper()
	x := numbers(500 + n)
	for _, y := range allAlphabetsOf(n) {
		d := divisionsOf(t, y, length)
		call(&x, d.systemOf(nil))
		for _, rule := range shortRules(n, left) {
			call(&x, d.systemOf([]impl.Rule{rule}))
		}
		rules := shortRules(n, 3)
		for size := 1; size <= 12; size++ {
			for range numbersOf[size] {
				call(&x, d.systemOf(chosen(&x, rules, size)))
			}
		}
	}
}

// found counts what short systems have.
type found struct{ redexes, several, joined, apart, splits int }

// checkTrace holds the functions of one word against the definitions on a word of a trace.
func (s *shortSystem) checkTrace(t *testing.T, v int, w []int64, f *found) {
	t.Helper()
	shown := []any{s.x, s.rules, w}
	var redexes []impl.Redex
	for _, r := range s.redexes[v] {
		redexes = append(redexes, s.shown(r))
	}
	got, code := impl.RedexesOf(s.x, s.rules, w)
	mustBeRedexes(t, shown, got, code, redexes)
	lists, code := impl.ReductsOf(s.x, s.rules, w)
	mustBeLists(t, "ReductsOf", shown, lists, code, s.normals(s.reducts[v]))
	lists, code = impl.IrreducibleForms(s.x, s.rules, w)
	mustBeLists(t, "IrreducibleForms", shown, lists, code, s.normals(s.forms[v]))
	is, code := impl.IsIrreducible(s.x, s.rules, w)
	mustReport(t, "IsIrreducible", shown, is, code, len(redexes) == 0)
	end, applied := v, int64(0)
	for ; len(s.redexes[end]) > 0; applied++ {
		end = s.numberOf(s.appliedTo(s.redexes[end][0]))
	}
	mustReduce(t, s.x, s.rules, w, s.normal(end), applied)
	f.redexes += len(redexes)
	f.several += oneIf(len(s.forms[v]) > 1)
}

// checkApplied holds ApplyRedex against the definitions on a word of a trace: with its redexes, where
// Before and Behind are the last words of their traces, and with some other traces.
func (s *shortSystem) checkApplied(t *testing.T, x *numbers, v int, w []int64) {
	t.Helper()
	last := func(u int) []int64 { return s.classes[u][len(s.classes[u])-1] }
	for _, r := range s.redexes[v] {
		redex := impl.Redex{Rule: int64(r.rule), Before: last(r.before), Behind: last(r.behind)}
		got, code := impl.ApplyRedex(s.x, s.rules, w, redex)
		mustBe(t, "ApplyRedex of "+key([]any{s.x, s.rules, redex}), w, got, code, s.normal(s.numberOf(s.appliedTo(r))))
		// With another trace in the one place it is no redex, as the other two fix it.
		other := x.below(len(s.classes))
		if other != r.before {
			got, code = impl.ApplyRedex(s.x, s.rules, w, impl.Redex{Rule: int64(r.rule), Before: last(other), Behind: redex.Behind})
			mustFail(t, "ApplyRedex", w, got, code, impl.ErrState)
		}
		if other != r.behind {
			got, code = impl.ApplyRedex(s.x, s.rules, w, impl.Redex{Rule: int64(r.rule), Before: redex.Before, Behind: last(other)})
			mustFail(t, "ApplyRedex", w, got, code, impl.ErrState)
		}
	}
	for i, rule := range s.rules {
		before, behind := x.below(len(s.classes)), x.below(len(s.classes))
		isRedex := s.numberOf(slices.Concat(last(before), rule.Left, last(behind))) == v
		reduct := refExtreme(s.x, slices.Concat(last(before), rule.Right, last(behind)), 1)
		got, code := impl.ApplyRedex(s.x, s.rules, w, impl.Redex{Rule: int64(i), Before: last(before), Behind: last(behind)})
		mustBeOrFail(t, "ApplyRedex", []any{s.x, s.rules, w}, got, code, reduct, codeIf(isRedex, impl.ErrState))
	}
}

// checkJoined holds AreJoinable against the definition on a pair of traces.
func (s *shortSystem) checkJoined(t *testing.T, u, v int, f *found) {
	t.Helper()
	areJoined := slices.ContainsFunc(s.reached[u], func(r int) bool { return slices.Contains(s.reached[v], r) })
	got, code := impl.AreJoinable(s.x, s.rules, s.normal(u), s.classes[v][len(s.classes[v])-1])
	mustReport(t, "AreJoinable", []any{s.x, s.rules, s.normal(u), s.normal(v)}, got, code, areJoined)
	f.joined += oneIf(areJoined && u != v)
	f.apart += oneIf(!areJoined)
}

// checkLengths holds the functions of all traces with at most n letters against the definitions.
func (s *shortSystem) checkLengths(t *testing.T, n int, f *found) {
	t.Helper()
	shown := []any{s.x, s.rules, n}
	split := s.split(n)
	got, code := impl.FirstSplit(s.x, s.rules, int64(n))
	mustBeOrFail(t, "FirstSplit", shown, got, code, s.normal(split), codeIf(split >= 0, no))
	number, code := impl.CountIrreducible(s.x, s.rules, int64(n))
	mustBeNumber(t, "CountIrreducible", shown, number, code, s.irreducible(n))
	f.splits += oneIf(split >= 0)
}

// check holds all functions but CompleteTo against the definitions.
func (s *shortSystem) check(t *testing.T, x *numbers, f *found) {
	t.Helper()
	mustBeSystem(t, s.x, s.rules, true)
	for v, class := range s.classes {
		w := class[x.below(len(class))]
		s.checkTrace(t, v, w, f)
		if x.below(3) == 0 {
			s.checkApplied(t, x, v, w)
			s.checkJoined(t, v, x.below(len(s.classes)), f)
			s.checkJoined(t, x.below(v+1), s.reached[v][x.below(len(s.reached[v]))], f)
			s.checkJoined(t, s.forms[v][0], v, f)
		}
	}
	for n := range s.length(len(s.classes)-1) + 1 {
		s.checkLengths(t, n, f)
	}
}

func TestSystemsOfFewLetters(t *testing.T) {
	t.Parallel()
	f := found{}
	check := func(x *numbers, s *shortSystem) { s.check(t, x, &f) }
	shortSystems(t, 0, 2, 3, nil, check)
	shortSystems(t, 1, 8, 6, map[int]int{2: 20, 3: 10, 12: 4}, check)
	shortSystems(t, 2, 6, 3, map[int]int{2: 100, 3: 40, 4: 10, 12: 5}, check)
	if f.redexes < 50000 || f.several < 5000 || f.joined < 5000 || f.apart < 5000 || f.splits < 1000 {
		t.Errorf("there are only %+v", f)
	}
}

func TestSystemsOfThreeLetters(t *testing.T) {
	t.Parallel()
	f := found{}
	shortSystems(t, 3, 4, 2, map[int]int{1: 20, 2: 50, 3: 20, 12: 5}, func(x *numbers, s *shortSystem) { s.check(t, x, &f) })
	if f.redexes < 30000 || f.several < 2000 || f.joined < 5000 || f.apart < 5000 || f.splits < 500 {
		t.Errorf("there are only %+v", f)
	}
}

func TestSystemsOfFourLetters(t *testing.T) {
	t.Parallel()
	f := found{}
	shortSystems(t, 4, 3, 1, map[int]int{1: 3, 2: 5, 3: 3, 12: 3}, func(x *numbers, s *shortSystem) { s.check(t, x, &f) })
	if f.redexes < 15000 || f.several < 500 || f.joined < 4000 || f.apart < 5000 || f.splits < 200 {
		t.Errorf("there are only %+v", f)
	}
}

func TestCompletionsOfShortSystems(t *testing.T) {
	t.Parallel()
	codes := map[int64]int{}
	added := map[int]int{}
	complete := func(n int) func(x *numbers, s *shortSystem) {
		return func(x *numbers, s *shortSystem) {
			want, expected := s.completed(n)
			got, code := impl.CompleteTo(s.x, s.rules, int64(n))
			mustBeRulesOrFail(t, []any{s.x, s.rules, n}, got, code, want, expected)
			codes[code]++
			if code == impl.ErrNone {
				added[len(got)-len(s.rules)]++
				split, code := impl.FirstSplit(s.x, got, int64(n))
				mustFail(t, "FirstSplit of what CompleteTo returns", split, split, code, no)
			}
		}
	}
	few := map[int]int{2: 60, 3: 60, 4: 30, 8: 5, 11: 5, 12: 10}
	shortSystems(t, 0, 2, 3, nil, complete(2))
	shortSystems(t, 1, 8, 5, few, complete(8))
	shortSystems(t, 2, 4, 3, few, complete(4))
	shortSystems(t, 2, 5, 2, few, complete(5))
	shortSystems(t, 3, 3, 2, few, complete(3))
	shortSystems(t, 4, 3, 1, map[int]int{2: 3, 3: 3, 4: 3}, complete(3))
	if codes[impl.ErrNone] < 500 || codes[impl.ErrState] < 100 || codes[impl.ErrLimit] < 10 || added[0] < 100 || added[1] < 50 || added[2] < 20 || added[4] < 5 {
		t.Errorf("there are only %v, and %v rules are added", codes, added)
	}
}

// someRules returns so many rules of an alphabet, most of which have a factor of the trace of w as Left.
func someRules(x *numbers, y impl.Alphabet, w []int64, size int) []impl.Rule {
	var rules []impl.Rule
	for range size {
		left := someWord(x, int(y.Letters), 1+x.below(4))
		if len(w) > 0 && x.below(4) > 0 {
			v := exchanged(x, y, w, 30)
			from := x.below(len(v))
			left = exchanged(x, y, v[from:min(len(v), from+1+x.below(5))], 5)
		}
		rules = append(rules, impl.Rule{Left: left, Right: someWord(x, int(y.Letters), x.below(len(left)))})
	}
	return rules
}

// someSystems calls a function with alphabets, a word with at most so many prefixes, and some rules.
func someSystems(seed numbers, prefixes int64, sizes int, call func(x *numbers, y impl.Alphabet, rules []impl.Rule, w []int64)) {
	someTraces(seed, func(x *numbers, y impl.Alphabet, u, v []int64) {
		if number, code := impl.CountPrefixes(y, u); code == impl.ErrNone && number <= prefixes {
			call(x, y, someRules(x, y, v, x.below(sizes+1)), v)
		}
	})
}

func TestRedexesOfLongWords(t *testing.T) {
	t.Parallel()
	redexes, lengths, none := 0, 0, 0
	for seed := range numbers(2) {
		someSystems(510+seed, 400, 12, func(x *numbers, y impl.Alphabet, rules []impl.Rule, w []int64) {
			mustHaveSystem(t, y, rules)
			shown := []any{y, rules, w}
			want := refRedexes(y, rules, w)
			got, code := impl.RedexesOf(y, rules, w)
			mustBeRedexes(t, shown, got, code, want)
			reducts, code := impl.ReductsOf(y, rules, w)
			mustBeLists(t, "ReductsOf", shown, reducts, code, refReducts(y, rules, want))
			is, code := impl.IsIrreducible(y, rules, w)
			mustReport(t, "IsIrreducible", shown, is, code, len(want) == 0)
			for _, r := range want {
				reduct := refApplied(y, rules, r)
				r.Before, r.Behind = exchanged(x, y, r.Before, 20), exchanged(x, y, r.Behind, 20)
				applied, code := impl.ApplyRedex(y, rules, w, r)
				mustBe(t, "ApplyRedex of "+key(shown), r.Before, applied, code, reduct)
			}
			redexes += len(want)
			none += oneIf(len(want) == 0)
			for i := range want {
				lengths += oneIf(i > 0 && want[i].Rule == want[i-1].Rule && len(want[i].Before) == len(want[i-1].Before))
			}
		})
	}
	if redexes < 10000 || lengths < 1000 || none < 50 {
		t.Errorf("there are only %d redexes, %d of them behind one with as many letters before it, and %d words without any", redexes, lengths, none)
	}
}

func TestReductionsOfLongWords(t *testing.T) {
	t.Parallel()
	several, joined, steps := 0, [2]int{}, int64(0)
	someSystems(520, 100, 3, func(x *numbers, y impl.Alphabet, rules []impl.Rule, w []int64) {
		shown := []any{y, rules, w}
		end, applied := refExtreme(y, w, 1), int64(0)
		for redexes := refRedexes(y, rules, end); len(redexes) > 0; redexes = refRedexes(y, rules, end) {
			end = refApplied(y, rules, redexes[0])
			applied++
		}
		mustReduce(t, y, rules, w, end, applied)
		steps += applied
		r, ok := reductionOf(y, rules, w, 60)
		if !ok {
			return
		}
		forms, code := impl.IrreducibleForms(y, rules, w)
		mustBeLists(t, "IrreducibleForms", shown, forms, code, sorted(r.forms))
		several += oneIf(len(forms) > 1)
		others := [][]int64{end, w[:len(w)/2], someWord(x, int(y.Letters), len(w))}
		for _, v := range sorted(r.reached)[:min(len(r.reached), 4)] {
			others = append(others, v, exchanged(x, y, slices.Concat(v, v), 3)[len(v):])
		}
		for _, v := range others {
			if p, ok := reductionOf(y, rules, v, 60); ok {
				is, code := impl.AreJoinable(y, rules, w, v)
				mustReport(t, "AreJoinable", append(shown, v), is, code, areJoined(r, p))
				is, code = impl.AreJoinable(y, rules, v, w)
				mustReport(t, "AreJoinable", append(shown, v), is, code, areJoined(r, p))
				joined[oneIf(is)]++
			}
		}
	})
	if several < 20 || joined[0] < 200 || joined[1] < 200 || steps < 200 {
		t.Errorf("only %d words have several forms, %v pairs are apart and joined, and there are %d steps", several, joined, steps)
	}
}

// shownRedexes returns redexes that are told by their rules and the texts of Before and Behind.
func shownRedexes(list ...string) []impl.Redex {
	var redexes []impl.Redex
	for _, line := range list {
		part := strings.Split(line, " ")
		redexes = append(redexes, impl.Redex{Rule: int64(part[0][0] - '0'), Before: word(part[1]), Behind: word(part[2])})
	}
	return redexes
}

func TestRedexes(t *testing.T) {
	wide, free, one, apart := alphabetWith(antichain(8)...), alphabetWith(3, 3), alphabetWith(1), alphabetWith(3, 7, 6) // a and c are independent
	cases := []struct {
		x     impl.Alphabet
		rules []impl.Rule
		w     string
		want  []impl.Redex
	}{
		// There is none without rules, in the empty trace, and if Left is longer than the word or another one.
		{wide, nil, "abc", nil}, {impl.Alphabet{}, nil, "", nil}, {free, rulesOf("a", "", "ab", "b"), "", nil}, {free, rulesOf("aba", "b"), "ab", nil}, {free, rulesOf("ba", "b"), "ab", nil}, {wide, rulesOf("abc", "h"), "abd", nil},
		{one, rulesOf("aaa", "aa"), "aa", nil}, {apart, rulesOf("ac", ""), "abc", nil},
		// Left is the whole trace, its beginning, its end, and both.
		{free, rulesOf("ab", "a"), "ab", shownRedexes("0  ")}, {free, rulesOf("ab", ""), "abb", shownRedexes("0  b")}, {free, rulesOf("ab", ""), "bab", shownRedexes("0 b ")}, {free, rulesOf("aba", ""), "ababa", shownRedexes("0  ba", "0 ab ")},
		// The rules come first, and they may be equal.
		{free, rulesOf("b", "", "a", ""), "ab", shownRedexes("0 a ", "1  b")}, {free, rulesOf("b", "", "b", "", "a", ""), "bb", shownRedexes("0  b", "0 b ", "1  b", "1 b ")},
		{free, rulesOf("ab", "a", "ba", "", "ab", "b"), "abab", shownRedexes("0  ab", "0 ab ", "1 a b", "2  ab", "2 ab ")},
		// Then shorter traces before longer ones, and those with equally many letters in lexicographic order.
		{wide, rulesOf("a", ""), "ba", shownRedexes("0  b", "0 b ")}, {wide, rulesOf("b", ""), "ab", shownRedexes("0  a", "0 a ")}, {wide, rulesOf("b", ""), "bac", shownRedexes("0  ac", "0 a c", "0 c a", "0 ac ")},
		{wide, rulesOf("a", ""), "aabb", shownRedexes("0  abb", "0 a bb", "0 b ab", "0 ab b", "0 bb a", "0 abb ")}, {wide, rulesOf("d", ""), "caad", shownRedexes("0  aac", "0 a ac", "0 c aa", "0 aa c", "0 ac a", "0 aac ")},
		{apart, rulesOf("b", ""), "cabab", shownRedexes("0 ac ab", "0 acba ")}, {apart, rulesOf("ab", ""), "cabab", shownRedexes("0 c ab", "0 acb ")}, {apart, rulesOf("a", "", "c", ""), "cab", shownRedexes("0  cb", "0 c b", "1  ab", "1 a b")},
		// Letters that are independent of Left may stand before it and behind it, in any order, and between its letters.
		{square(), rulesOf("b", ""), "dbd", shownRedexes("0  dd", "0 d d", "0 dd ")}, {square(), rulesOf("bb", "c"), "dbdb", shownRedexes("0  dd", "0 d d", "0 dd ")}, {square(), rulesOf("aa", ""), "caca", shownRedexes("0  cc", "0 c c", "0 cc ")},
		// Neither Left nor what is given as the word need be a normal form, but what is returned is one.
		{square(), rulesOf("ca", "b"), "cabac", shownRedexes("0  bac", "0 acb ")}, {square(), rulesOf("ac", "b"), "acbca", shownRedexes("0  bac", "0 acb ")}, {square(), rulesOf("db", ""), "cabdca", shownRedexes("0 ac ac")}, {apart, rulesOf("cba", "b"), "cbaccba", shownRedexes("0  ccba", "0 cbac ")},
		// The letters behind Left need not be in the order of the whole trace.
		{alphabetWith(1, 6, 6), rulesOf("b", ""), "bca", shownRedexes("0  ac", "0 a c")}, {alphabetWith(5, 2, 5), rulesOf("c", ""), "bca", shownRedexes("0  ab", "0 b a")},
	}
	for _, c := range cases {
		shown := []any{c.x, c.rules, c.w}
		mustHaveSystem(t, c.x, c.rules)
		if want := refRedexes(c.x, c.rules, word(c.w)); !areEqualLists(redexLists(want), redexLists(c.want)) {
			t.Errorf("%v has the redexes %v, and not %v", shown, want, c.want)
		}
		got, code := impl.RedexesOf(c.x, c.rules, word(c.w))
		mustBeRedexes(t, shown, got, code, c.want)
		is, code := impl.IsIrreducible(c.x, c.rules, word(c.w))
		mustReport(t, "IsIrreducible", shown, is, code, len(c.want) == 0)
	}
}

func TestRedexesOfMaxWordLetters(t *testing.T) {
	one, narrow, all := alphabetWith(1), alphabetWith(complete(8)...), "hgfedcbahgfedcbahgfedcba"
	for left := 1; left <= 24; left++ {
		rules := rulesOf(times(left, "a"), times(left/2, "a"))
		var want []impl.Redex
		for before := range 25 - left {
			want = append(want, impl.Redex{Before: word(times(before, "a")), Behind: word(times(24-left-before, "a"))})
		}
		got, code := impl.RedexesOf(one, rules, word(times(24, "a")))
		mustBeRedexes(t, rules, got, code, want)
		got, code = impl.RedexesOf(one, rules, word(times(left-1, "a")))
		mustBeRedexes(t, rules, got, code, nil)
		// In a word of narrow, all factors of 8 letters and more are different, and shorter ones come again.
		want = nil
		for before := 0; before+left <= 24; before++ {
			if strings.HasPrefix(all[before:], all[24-left:]) {
				want = append(want, impl.Redex{Before: word(all[:before]), Behind: word(all[before+left:])})
			}
		}
		got, code = impl.RedexesOf(narrow, rulesOf(all[24-left:], ""), word(all))
		mustBeRedexes(t, left, got, code, want)
	}
}

// mustBeLimited reports an error unless the functions that look at all prefixes of a trace, with rules
// that lead to no other trace, return ErrLimit exactly if it is due.
func mustBeLimited(t *testing.T, x impl.Alphabet, rules []impl.Rule, w []int64, isDue bool) {
	t.Helper()
	shown, expected := []any{x, rules, w}, codeIf(!isDue, impl.ErrLimit)
	normal := refExtreme(x, w, 1)
	redexes, code := impl.RedexesOf(x, rules, w)
	mustBeListsOrFail(t, "RedexesOf", shown, redexLists(redexes), code, nil, expected)
	lists, code := impl.ReductsOf(x, rules, w)
	mustBeListsOrFail(t, "ReductsOf", shown, lists, code, nil, expected)
	lists, code = reduceCall(x, rules, w)
	mustBeListsOrFail(t, "ReduceFirst", shown, lists, code, [][]int64{normal, {0}}, expected)
	lists, code = impl.IrreducibleForms(x, rules, w)
	mustBeListsOrFail(t, "IrreducibleForms", shown, lists, code, [][]int64{normal}, expected)
	for _, pair := range [][2][]int64{{w, normal}, {w, nil}, {nil, w}} {
		lists, code = oneTruth(impl.AreJoinable(x, rules, pair[0], pair[1]))
		want := [][]int64{{1}}
		if len(pair[0]) != len(pair[1]) {
			want = nil
		}
		mustBeListsOrFail(t, "AreJoinable", shown, lists, code, want, expected)
	}
	// The others have no such limit.
	is, code := impl.IsIrreducible(x, rules, w)
	mustReport(t, "IsIrreducible", shown, is, code, true)
	whole := append(slices.Clone(rules), impl.Rule{Left: w, Right: w[:1]})
	got, code := impl.ApplyRedex(x, whole, w, impl.Redex{Rule: int64(len(rules))})
	mustBe(t, "ApplyRedex", w, got, code, w[:1])
	is, code = impl.IsIrreducible(x, whole, w)
	mustReport(t, "IsIrreducible", shown, is, code, false)
}

func TestTracesWithAboutMaxFamilyPrefixes(t *testing.T) {
	on := alphabetWhere(7, func(i, k int) bool { return k == 6 }) // g depends on all others
	six, wide := alphabetWith(antichain(6)...), alphabetWith(antichain(8)...)
	cases := []struct {
		x        impl.Alphabet
		text     string
		prefixes int64
	}{
		{alphabetWith(1, 2, 4, 8, 80, 96, 112), "gfaaceccaccebddecafb", 4095}, {six, "fedcbafedcbafedcba", 4096}, {six, "aaaaaaabbbbbbbcccccccdef", 4096}, {on, "aaabbbcccdddeeefff", 4096},
		{on, "aaabbbcccdddeeefffg", 4097}, {on, "gfedcbafedcbafedcba", 4097}, {wide, "aaabbbcccdddeeefffggghhh", 65536}, {wide, "abcdefghabcdefgh", 6561},
	}
	for _, c := range cases {
		w := word(c.text)
		prefixes, code := impl.CountPrefixes(c.x, w)
		mustBeNumber(t, "CountPrefixes", c.text, prefixes, code, c.prefixes)
		for _, rules := range [][]impl.Rule{nil, rulesOf("aaaaaaaa", ""), slices.Repeat(rulesOf("gagagaga", "a", "ffffeeee", ""), 5)} {
			if impl.IsSystem(c.x, rules) {
				mustBeLimited(t, c.x, rules, w, prefixes > impl.MaxFamily)
			}
		}
	}
	// All prefixes that leave an a, and 12 equal rules.
	rules := slices.Repeat(rulesOf("a", ""), 12)
	redexes, code := impl.RedexesOf(six, rules, word("fedcbafedcbafedcba"))
	mustBeNumber(t, "the number of RedexesOf", rules, int64(len(redexes)), code, 12*3*4*4*4*4*4)
	if !slices.IsSortedFunc(redexes, compareRedexes) {
		t.Errorf("the redexes of %v are not in their order", rules)
	}
	lists, code := impl.ReductsOf(six, rules, word("fedcbafedcbafedcba"))
	mustBeLists(t, "ReductsOf", rules, lists, code, words("aabbbcccdddeeefff"))
	mustReduce(t, six, rules, word("fedcbafedcbafedcba"), word("bbbcccdddeeefff"), 3)
}

func TestTracesWithManyPrefixesOnTheWay(t *testing.T) {
	on := alphabetWhere(7, func(i, k int) bool { return k == 6 }) // g depends on all others
	rest := "bbbcccdddeeefff"
	cases := []struct {
		rules   []impl.Rule
		w, want string
		applied int64
		code    int64 // of ReduceFirst
		all     int64 // of IrreducibleForms
	}{
		// Without g there are exactly MaxFamily prefixes in the end, or more.
		{rulesOf("g", ""), "aaag" + rest, "aaa" + rest, 1, 0, 0}, {rulesOf("g", ""), "aagaa" + rest, "", 0, impl.ErrLimit, impl.ErrLimit}, {rulesOf("gg", "a"), "aaggaa" + rest, "", 0, impl.ErrLimit, impl.ErrLimit}, {rulesOf("g", ""), "agaga" + rest, "aaa" + rest, 2, 0, 0},
		// Or on the way only.
		{rulesOf("g", "", "aaaa", ""), "aagaa" + rest, "", 0, impl.ErrLimit, impl.ErrLimit}, {rulesOf("aaaa", "", "g", ""), "aagaa" + rest, "", 0, impl.ErrLimit, impl.ErrLimit},
		// Or on another way than that of the first redexes.
		{rulesOf("aa", "", "g", ""), "aagaa" + rest, rest, 3, 0, impl.ErrLimit}, {rulesOf("aag", "", "g", ""), "aagaa" + rest, "aa" + rest, 1, 0, impl.ErrLimit}, {rulesOf("aag", "aa", "g", ""), "aagaa" + rest, "", 0, impl.ErrLimit, impl.ErrLimit},
		// Or nowhere, as no rule can be applied.
		{rulesOf("ggg", ""), "aagaa" + rest, "aagaa" + rest, 0, 0, 0}, {rulesOf("gaaa", ""), "aagaa" + rest, "aagaa" + rest, 0, 0, 0},
	}
	for _, c := range cases {
		mustHaveSystem(t, on, c.rules)
		shown, w := []any{c.rules, c.w}, word(c.w)
		lists, code := reduceCall(on, c.rules, w)
		mustBeListsOrFail(t, "ReduceFirst", shown, lists, code, [][]int64{word(c.want), {c.applied}}, c.code)
		lists, code = impl.IrreducibleForms(on, c.rules, w)
		mustBeListsOrFail(t, "IrreducibleForms", shown, lists, code, words(c.want), c.all)
		is, code := impl.AreJoinable(on, c.rules, w, w)
		if is != (c.all == impl.ErrNone) || code != c.all {
			t.Errorf("AreJoinable(%v, itself) = %v, %d", shown, is, code)
		}
		for _, pair := range [][2][]int64{{w, nil}, {nil, w}} {
			is, code = impl.AreJoinable(on, c.rules, pair[0], pair[1])
			if is || code != c.all {
				t.Errorf("AreJoinable(%v, the empty trace) = %v, %d", shown, is, code)
			}
		}
		// The trace itself has few prefixes.
		_, code = impl.RedexesOf(on, c.rules, w)
		mustList(t, "RedexesOf", nil, code)
		_, code = impl.ReductsOf(on, c.rules, w)
		mustList(t, "ReductsOf", nil, code)
	}
}

func TestApplyRedex(t *testing.T) {
	x, one, narrow := square(), alphabetWith(1), alphabetWith(complete(8)...)
	rules, state := rulesOf("ac", "b", "ca", "", "bd", "d", "b", "", "dbdb", "aca"), int64(impl.ErrState)
	all := "hgfedcbahgfedcbahgfedcba"
	cases := []struct {
		x              impl.Alphabet
		rules          []impl.Rule
		w              string
		rule           int64
		before, behind string
		want           string
		code           int64
	}{
		{x, rules, "cabac", 0, "", "bac", "bbac", 0}, {x, rules, "cabac", 0, "", "bca", "bbac", 0}, {x, rules, "acbca", 0, "acb", "", "acbb", 0}, {x, rules, "cabac", 0, "cab", "", "acbb", 0}, {x, rules, "cabac", 1, "cab", "", "acb", 0},
		{x, rules, "cabac", 1, "", "bca", "bac", 0}, {x, rules, "cabac", 3, "ca", "ca", "aacc", 0}, {x, rules, "cabac", 3, "ac", "ac", "aacc", 0}, {x, rules, "bddb", 2, "", "db", "bdd", 0}, {x, rules, "bddb", 2, "db", "", "bdd", 0}, {x, rules, "bddb", 2, "b", "d", "bdd", 0},
		{x, rules, "cdbdb", 4, "c", "", "aacc", 0}, {x, rules, "bbddc", 4, "", "c", "aacc", 0}, {x, rules, "ac", 1, "", "", "", 0},
		// No redex of this trace: too few letters, too many, others, or not in their places.
		{x, rules, "cabac", 0, "", "", "", state}, {x, rules, "cabac", 0, "", "b", "", state}, {x, rules, "cabac", 0, "acb", "bac", "", state}, {x, rules, "cabac", 0, "", "baca", "", state}, {x, rules, "cabac", 0, "b", "ac", "", state}, {x, rules, "cabac", 0, "", "dac", "", state},
		{x, rules, "cabac", 2, "", "bac", "", state}, {x, rules, "cabac", 0, "bac", "", "", state}, {x, rules, "cabac", 0, "", "acb", "", state}, {x, rules, "cabac", 0, "a", "bc", "", state}, {x, rules, "cabac", 3, "aca", "c", "", state}, {x, rules, "", 0, "", "", "", state}, {x, rules, "", 3, "b", "", "", state}, {x, rules, "bddb", 2, "bd", "b", "", state},
		// Words of MaxWord letters, and products with more.
		{one, rulesOf("a", ""), times(24, "a"), 0, times(23, "a"), "", times(23, "a"), 0}, {one, rulesOf("a", ""), times(24, "a"), 0, times(10, "a"), times(13, "a"), times(23, "a"), 0}, {one, rulesOf("a", ""), times(24, "a"), 0, times(24, "a"), "", "", state}, {one, rulesOf("a", ""), times(24, "a"), 0, "", times(24, "a"), "", state},
		{one, rulesOf("a", ""), times(24, "a"), 0, times(24, "a"), times(24, "a"), "", state}, {one, rulesOf(times(24, "a"), times(23, "a")), times(24, "a"), 0, "", "", times(23, "a"), 0}, {one, rulesOf(times(24, "a"), times(23, "a")), times(24, "a"), 0, "a", "", "", state}, {one, rulesOf(times(24, "a"), ""), times(24, "a"), 0, times(24, "a"), times(24, "a"), "", state},
		{one, rulesOf("aa", ""), times(23, "a"), 0, times(23, "a"), "", "", state}, {narrow, rulesOf(all, "", all[1:], "h"), all, 0, "", "", "", 0}, {narrow, rulesOf(all, "", all[1:], "h"), all, 1, "h", "", "hh", 0}, {narrow, rulesOf(all, "", all[1:], "h"), all, 1, "", "h", "", state},
	}
	for _, c := range cases {
		mustHaveSystem(t, c.x, c.rules)
		r := impl.Redex{Rule: c.rule, Before: word(c.before), Behind: word(c.behind)}
		got, code := impl.ApplyRedex(c.x, c.rules, word(c.w), r)
		mustBeOrFail(t, "ApplyRedex", []any{c.x, c.rules, c.w, r}, got, code, word(c.want), c.code)
	}
	// A rule that is not there, or words that are none, whether or not the rest would be a redex.
	good := impl.Redex{Behind: word("bac")}
	for _, w := range words("cabac", "", "b") {
		for _, rule := range []int64{-1, -5, 5, 6, 12, 1 << 32, math.MaxInt64, math.MinInt64} {
			got, code := impl.ApplyRedex(x, rules, w, impl.Redex{Rule: rule, Behind: good.Behind})
			mustFail(t, "ApplyRedex", w, got, code, impl.ErrRange)
		}
		for _, v := range notWords(4) {
			got, code := impl.ApplyRedex(x, rules, w, impl.Redex{Before: v, Behind: good.Behind})
			mustFail(t, "ApplyRedex", w, got, code, impl.ErrRange)
			got, code = impl.ApplyRedex(x, rules, w, impl.Redex{Behind: v})
			mustFail(t, "ApplyRedex", w, got, code, impl.ErrRange)
			got, code = impl.ApplyRedex(x, rules, v, good)
			mustFail(t, "ApplyRedex", v[:min(len(v), 30)], got, code, impl.ErrRange)
		}
		got, code := impl.ApplyRedex(x, nil, w, good)
		mustFail(t, "ApplyRedex", w, got, code, impl.ErrRange)
	}
	got, code := impl.ApplyRedex(impl.Alphabet{}, nil, nil, impl.Redex{})
	mustFail(t, "ApplyRedex", nil, got, code, impl.ErrRange)
}

func TestReductsAndForms(t *testing.T) {
	free, one, apart := alphabetWith(3, 3), alphabetWith(1), alphabetWith(3, 7, 6) // a and c are independent
	cases := []struct {
		x       impl.Alphabet
		rules   []impl.Rule
		w       string
		reducts [][]int64
		first   string // to which the first redexes lead
		applied int64
		forms   [][]int64
	}{
		// Different redexes lead to one trace, or to different ones, which are in ascending order.
		{one, rulesOf("a", ""), "aaaa", words("aaa"), "", 4, words("")}, {one, rulesOf("aaa", "aa", "aaa", "a", "aa", ""), "aaaa", words("aa", "aaa"), "", 3, words("", "a")}, {free, rulesOf("ab", "a", "ab", "b"), "ab", words("a", "b"), "a", 1, words("a", "b")},
		{free, rulesOf("b", "", "a", ""), "ab", words("a", "b"), "", 2, words("")}, {free, rulesOf("ab", "", "ba", ""), "aba", words("a"), "a", 1, words("a")}, {free, rulesOf("ba", "a", "ab", ""), "aba", words("a", "aa"), "aa", 1, words("a", "aa")},
		{square(), rulesOf("ac", "b"), "cabac", words("acbb", "bbac"), "bbb", 2, words("bbb")}, {square(), rulesOf("ac", ""), "cabac", words("acb", "bac"), "b", 2, words("b")},
		// The empty trace is a reduct, and comes first.
		{free, rulesOf("ba", "b", "ba", ""), "ba", words("", "b"), "b", 1, words("", "b")}, {square(), rulesOf("ac", ""), "ca", words(""), "", 1, words("")},
		// A letter that is independent of Left, but not of Right, may stand before it and behind it.
		{apart, rulesOf("aa", "b"), "caa", words("bc", "cb"), "bc", 1, words("bc", "cb")}, {apart, rulesOf("aa", "b"), "cacac", words("bccc", "cbcc", "ccbc", "cccb"), "bccc", 1, words("bccc", "cbcc", "ccbc", "cccb")},
		{square(), rulesOf("bb", "a"), "dbdb", words("add", "dad", "dda"), "add", 1, words("add", "dad", "dda")}, {square(), rulesOf("bb", "d"), "dbdb", words("ddd"), "ddd", 1, words("ddd")}, {square(), rulesOf("bb", ""), "dbdb", words("dd"), "dd", 1, words("dd")},
		// Which letters of Left are taken matters for what they depend on.
		{apart, rulesOf("ac", ""), "acbac", words("acb", "bac"), "b", 2, words("b")}, {apart, rulesOf("ab", "c"), "abab", words("abc", "acb"), "cc", 2, words("cc")},
		// Reducts of reducts are other traces again, or the same.
		{free, rulesOf("aa", "b", "bb", "a"), "aabb", words("aaa", "bbb"), "ab", 2, words("ab", "ba")}, {free, rulesOf("ab", "b", "bb", "b"), "aabb", words("aab", "abb"), "b", 3, words("b")}, {free, rulesOf("abb", "ba"), "aabb", words("aba"), "aba", 1, words("aba")},
		// Irreducible traces have only themselves, also with rules for others.
		{free, rulesOf("aa", "b"), "abab", nil, "abab", 0, words("abab")}, {free, nil, "ba", nil, "ba", 0, words("ba")}, {square(), nil, "ca", nil, "ac", 0, words("ac")}, {square(), rulesOf("bb", "a"), "dbca", nil, "bdac", 0, words("bdac")}, {free, rulesOf("a", ""), "", nil, "", 0, words("")}, {impl.Alphabet{}, nil, "", nil, "", 0, words("")},
	}
	for _, c := range cases {
		mustHaveSystem(t, c.x, c.rules)
		shown, w := []any{c.x, c.rules, c.w}, word(c.w)
		r, _ := reductionOf(c.x, c.rules, w, 100)
		if reducts := refReducts(c.x, c.rules, refRedexes(c.x, c.rules, w)); !areEqualLists(reducts, c.reducts) || !areEqualLists(sorted(r.forms), c.forms) {
			t.Errorf("%v has the reducts %v and the forms %v", shown, reducts, sorted(r.forms))
		}
		got, code := impl.ReductsOf(c.x, c.rules, w)
		mustBeLists(t, "ReductsOf", shown, got, code, c.reducts)
		got, code = impl.IrreducibleForms(c.x, c.rules, w)
		mustBeLists(t, "IrreducibleForms", shown, got, code, c.forms)
		mustReduce(t, c.x, c.rules, w, word(c.first), c.applied)
		is, code := impl.IsIrreducible(c.x, c.rules, w)
		mustReport(t, "IsIrreducible", shown, is, code, len(c.reducts) == 0)
	}
}

func TestReductionsOfMaxWordLetters(t *testing.T) {
	one, narrow, wide := alphabetWith(1), alphabetWith(complete(8)...), alphabetWith(antichain(8)...)
	a, all := word(times(24, "a")), word("hgfedcbahgfedcbahgfedcba")
	mustReduce(t, one, rulesOf("a", ""), a, nil, 24)
	mustReduce(t, one, rulesOf("aa", "a"), a, word("a"), 23)
	mustReduce(t, one, rulesOf("aaaaa", "aa"), a, word("aaa"), 7)
	mustReduce(t, one, rulesOf(times(24, "a"), times(23, "a")), a, a[1:], 1)
	mustReduce(t, narrow, rulesOf("a", "", "b", "", "c", "", "d", "", "e", "", "f", "", "g", "", "h", ""), all, nil, 24)
	mustReduce(t, narrow, rulesOf("ah", "h", "ba", "b", "hg", "b"), all, word("bfedcbbfedcbbfedcb"), 6)
	// With all letters independent there would be too many prefixes, but not with fewer of them.
	mustReduce(t, wide, rulesOf("ab", ""), all[2:16], word("ccddeeffgh"), 2)
	got, code := reduceCall(wide, rulesOf("a", ""), all)
	mustFailLists(t, "ReduceFirst", all, got, code, impl.ErrLimit)
	forms, code := impl.IrreducibleForms(one, rulesOf("aaaaa", "aa", "aaaaaaa", "a"), a)
	mustBeLists(t, "IrreducibleForms", a, forms, code, words("aaa"))
	forms, code = impl.IrreducibleForms(one, rulesOf("aaaaa", "aa", "aaaaaa", "a"), a)
	mustBeLists(t, "IrreducibleForms", a, forms, code, words("a", "aa", "aaa", "aaaa"))
}

// countDeleted returns the number of traces to which deleting letters of w leads.
func countDeleted(x impl.Alphabet, w []int64) int {
	number := 0
	for level := map[string][]int64{"": w}; len(level) > 0; {
		number += len(level)
		shorter := map[string][]int64{}
		for _, v := range level {
			for i := range v {
				u := refExtreme(x, slices.Delete(slices.Clone(v), i, i+1), 1)
				shorter[refWordText(u)] = u
			}
		}
		level = shorter
	}
	return number
}

// manyReached has a word from which deleting letters leads to so many traces.
type manyReached struct {
	x      impl.Alphabet
	text   string
	traces int
}

func aboutMaxReached() []manyReached {
	free, three, six := alphabetWith(3, 3), alphabetWith(7, 7, 7), alphabetWith(antichain(6)...)
	return []manyReached{
		{free, "babbaaababbbbbbba", 999}, {free, "abbbbbaaabbbbbaab", 999}, {three, "bbccaabbcaaac", 999}, {three, "ababcacbbbccc", 1000}, {three, "ccbbacacbbca", 1000}, {six, "fedcbacbacbacba", 1000},
		{free, "abaabaabbaabba", 1001}, {free, "bbbbaabaaabaaaba", 1001}, {three, "bbacccbbaabaaa", 1001}, {alphabetWith(antichain(5)...), "aaabbbcccdddeee", 1024}, {alphabetWith(complete(8)...), "abcdefghab", 1020},
	}
}

// deletions returns a rule for each letter, that deletes it.
func deletions(x impl.Alphabet) []impl.Rule {
	var rules []impl.Rule
	for a := range x.Letters {
		rules = append(rules, impl.Rule{Left: []int64{a}})
	}
	return rules
}

func TestTracesThatLeadToAboutMaxClass(t *testing.T) {
	t.Parallel()
	for _, c := range aboutMaxReached() {
		w, rules := word(c.text), deletions(c.x)
		shown, expected := []any{c.x, c.text}, codeIf(c.traces <= impl.MaxClass, impl.ErrLimit)
		if number := countDeleted(c.x, w); number != c.traces {
			t.Errorf("%v leads to %d traces, and not %d", shown, number, c.traces)
		}
		forms, code := impl.IrreducibleForms(c.x, rules, w)
		mustBeListsOrFail(t, "IrreducibleForms", shown, forms, code, words(""), expected)
		// Each of two words may lead to as many traces, but neither of them to more, even if the other one
		// is the same trace or empty.
		for _, pair := range [][2][]int64{{w, w}, {w, nil}, {nil, w}, {w, word("a")}, {reversed(w), w}} {
			is, code := impl.AreJoinable(c.x, rules, pair[0], pair[1])
			if is != (expected == impl.ErrNone) || code != expected {
				t.Errorf("AreJoinable(%v, %v) = %v, %d", shown, pair, is, code)
			}
		}
		// The first redexes lead to few traces.
		mustReduce(t, c.x, rules, w, nil, int64(len(w)))
	}
}

func TestJoinableTraces(t *testing.T) {
	free, x := alphabetWith(3, 3), square()
	cases := []struct {
		x     impl.Alphabet
		rules []impl.Rule
		u, v  string
		want  bool
	}{
		{free, nil, "ab", "ab", true}, {free, nil, "ab", "ba", false}, {x, nil, "acb", "cab", true}, {x, nil, "acb", "bac", false}, {free, nil, "", "", true}, {impl.Alphabet{}, nil, "", "", true}, {free, nil, "", "a", false},
		// The one leads to the other one, or both to a third one, at once or later.
		{free, rulesOf("ab", "a"), "ab", "a", true}, {free, rulesOf("ab", "a"), "abbbb", "a", true}, {free, rulesOf("ab", "a"), "abab", "abba", true}, {free, rulesOf("ab", "a"), "aba", "bab", false}, {x, rulesOf("ac", "b"), "cabac", "bb", false}, {x, rulesOf("ac", "b"), "cabac", "bcab", true},
		{free, rulesOf("ab", "", "ba", "a"), "aa", "a", false}, {free, rulesOf("ab", "", "ba", "a"), "aa", "aba", true}, {free, rulesOf("ab", "", "ba", "a"), "a", "aba", true}, {free, rulesOf("ab", "", "ba", ""), "aba", "baa", true}, {free, rulesOf("ab", "", "ba", ""), "aab", "b", false},
		// Joined by one of several forms, though they lead to others too.
		{free, rulesOf("aa", "b", "aa", ""), "aa", "b", true}, {free, rulesOf("aa", "b", "aa", ""), "aa", "", true}, {free, rulesOf("aa", "b", "aa", ""), "aaa", "a", true}, {free, rulesOf("aa", "b", "aa", ""), "aaa", "ab", true}, {free, rulesOf("aa", "b", "aa", ""), "aaa", "b", false},
	}
	for _, c := range cases {
		mustHaveSystem(t, c.x, c.rules)
		p, _ := reductionOf(c.x, c.rules, word(c.u), 100)
		q, _ := reductionOf(c.x, c.rules, word(c.v), 100)
		if areJoined(p, q) != c.want {
			t.Errorf("%v joins %q and %q: %v", c.rules, c.u, c.v, !c.want)
		}
		for _, pair := range [][2]string{{c.u, c.v}, {c.v, c.u}} {
			is, code := impl.AreJoinable(c.x, c.rules, word(pair[0]), word(pair[1]))
			mustReport(t, "AreJoinable", []any{c.x, c.rules, pair}, is, code, c.want)
		}
	}
}

func TestSplits(t *testing.T) {
	free, one, two := alphabetWith(3, 3), alphabetWith(1), alphabetWith(1, 2)
	cases := []struct {
		x     impl.Alphabet
		rules []impl.Rule
		n     int64
		want  string
		code  int64
	}{
		{free, rulesOf("ab", "", "ba", "a"), 3, "aba", 0}, {free, rulesOf("ab", "", "ba", "a"), 2, "", no}, {free, rulesOf("ab", "", "ba", "a"), 8, "aba", 0}, {free, rulesOf("ab", "", "ba", "a"), 0, "", no}, {free, rulesOf("ab", "", "ba", "a"), 9, "", impl.ErrLimit},
		// Of traces with equally many letters the first one, and shorter ones before longer ones.
		{free, rulesOf("bb", "", "bb", "a", "ab", "a", "ab", "b"), 5, "ab", 0}, {free, rulesOf("bb", "", "bb", "a", "aaa", "", "aaa", "a"), 5, "bb", 0}, {square(), rulesOf("ca", "", "ca", "b", "bb", "", "bb", "d", "db", "c", "db", "a"), 2, "ac", 0}, {square(), rulesOf("db", "c", "db", "a", "dc", "", "dc", "a"), 4, "bd", 0},
		{square(), rulesOf("dca", "c", "dca", "a"), 4, "dac", 0}, {free, rulesOf("aab", "a", "aab", "", "aba", "b", "aba", ""), 7, "aab", 0},
		// A trace may have one form although a reduct of it is reduced in several ways.
		{free, rulesOf("aa", "a", "aa", "", "a", ""), 8, "", no}, {free, rulesOf("ab", "a", "ab", "b", "a", "", "b", ""), 8, "", no},
		// Without rules, and with all lengths.
		{free, nil, 8, "", no}, {one, nil, 24, "", no}, {two, nil, 24, "", no}, {one, nil, 0, "", no}, {impl.Alphabet{}, nil, 0, "", no}, {impl.Alphabet{}, nil, 24, "", no}, {one, rulesOf(times(24, "a"), "", times(24, "a"), "a"), 24, times(24, "a"), 0}, {one, rulesOf(times(24, "a"), "", times(24, "a"), "a"), 23, "", no},
		{two, rulesOf(times(24, "b"), "", times(24, "b"), "a"), 24, times(24, "b"), 0}, {two, rulesOf("aaaaabbbb", "b", "bbbbb", "aa"), 24, "aaaaabbbbb", 0}, {one, rulesOf("aaaaa", "aaa", "aaaaaa", ""), 24, "aaaaaa", 0},
	}
	for _, c := range cases {
		mustHaveSystem(t, c.x, c.rules)
		got, code := impl.FirstSplit(c.x, c.rules, c.n)
		mustBeOrFail(t, "FirstSplit", []any{c.x, c.rules, c.n}, got, code, word(c.want), c.code)
		if code == impl.ErrNone {
			forms, code := impl.IrreducibleForms(c.x, c.rules, got)
			if mustList(t, "IrreducibleForms", nil, code); len(forms) < 2 {
				t.Errorf("%v has only the forms %v", got, forms)
			}
		}
	}
}

func TestSystemsWithAboutMaxClassTraces(t *testing.T) {
	// Of all alphabets and lengths the first one comes nearest, as for CollisionTo of chapter 8. The others
	// have more.
	cases := []struct {
		x    impl.Alphabet
		n    int64
		size int
	}{
		{alphabetWith(1, 2, 28, 124, 124, 120, 120), 4, 997}, {alphabetWith(1, 2, 12, 12, 112, 240, 240, 224), 4, 996}, {alphabetWith(antichain(3)...), 16, 969}, {alphabetWith(complete(2)...), 8, 511}, {alphabetWith(1, 2), 24, 325},
		{alphabetWith(1), 24, 25}, {alphabetWith(antichain(8)...), 4, 495}, {alphabetWith(complete(8)...), 3, 585}, {alphabetWith(complete(8)...), 0, 1},
		{alphabetWith(antichain(4)...), 10, 1001}, {alphabetWith(7, 7, 7, 120, 120, 120, 120), 4, 1001}, {alphabetWith(complete(2)...), 9, 1023}, {alphabetWith(antichain(3)...), 17, 1140}, {alphabetWith(antichain(3)...), 24, 2925},
		{alphabetWith(complete(8)...), 4, 0}, {alphabetWith(complete(8)...), 24, 0}, {alphabetWith(antichain(8)...), 24, 0}, {alphabetWith(1, 2, 4), 24, 2925},
	}
	for _, c := range cases {
		normals, ok := normalsUpTo(c.x, int(c.n), 3000)
		if c.size > 0 && len(normals) != c.size || c.size == 0 && ok {
			t.Errorf("%v has %d traces with at most %d letters", c.x, len(normals), c.n)
		}
		limit := codeIf(c.size > 0 && c.size <= impl.MaxClass, impl.ErrLimit)
		// Nothing is to be found, or a trace that splits, or one with which no rule can be made.
		for _, rules := range [][]impl.Rule{nil, deletions(c.x), rulesOf("aa", "", "aa", "a"), rulesOf("aa", "b", "aa", "a")} {
			if !impl.IsSystem(c.x, rules) { // as there is no b
				continue
			}
			shown := []any{c.x, c.n, rules}
			splits := len(rules) > 0 && len(rules[0].Left) == 2 && c.n > 1
			got, code := impl.FirstSplit(c.x, rules, c.n)
			mustBeOrFail(t, "FirstSplit", shown, got, code, word("aa"), cmp.Or(limit, codeIf(splits, no)))
			completed, code := impl.CompleteTo(c.x, rules, c.n)
			want, expected := rules, limit
			if splits {
				want, expected = append(slices.Clone(rules), rulesOf("a", "")...), cmp.Or(limit, codeIf(len(rules[0].Right) == 0, impl.ErrState))
			}
			mustBeRulesOrFail(t, shown, completed, code, want, expected)
			number, code := impl.CountIrreducible(c.x, rules, c.n)
			irreducible := slices.DeleteFunc(slices.Clone(normals), func(w []int64) bool {
				is, _ := impl.IsIrreducible(c.x, rules, w)
				return int64(len(w)) != c.n || !is
			})
			mustCount(t, "CountIrreducible", shown, number, code, int64(len(irreducible)), limit)
		}
	}
}

func TestCompletions(t *testing.T) {
	free, one, x := alphabetWith(3, 3), alphabetWith(1), square()
	on := alphabetWith(7, 3, 5)                            // a depends on b and c
	large := rulesOf("bac", "ab", "bac", "a", "cbb", "aa") // of on, to which nine rules are added
	both, same := rulesOf("aa", "a", "aa", ""), rulesOf("ab", "a", "ab", "b")
	limit, state := int64(impl.ErrLimit), int64(impl.ErrState)
	cases := []struct {
		x     impl.Alphabet
		rules []impl.Rule
		n     int64
		added []impl.Rule
		code  int64
	}{
		// Nothing is added, but the sides become normal forms.
		{free, nil, 8, nil, 0}, {impl.Alphabet{}, nil, 24, nil, 0}, {x, rulesOf("ca", "b", "dcba", "dba"), 0, nil, 0}, {x, rulesOf("dba", "db"), 5, nil, 0}, {free, rulesOf("ab", "a"), 8, nil, 0}, {on, rulesOf("cab", "cb", "cb", "a"), 1, nil, 0},
		{one, rulesOf("a", "", "aa", "", times(24, "a"), times(23, "a")), 24, nil, 0}, {free, slices.Repeat(rulesOf("ab", "a"), 12), 8, nil, 0}, {free, rulesOf("ab", "", "ba", "a"), 2, nil, 0},
		// One rule, and several: those with more letters first, whichever trace they come from.
		{free, both, 2, rulesOf("a", ""), 0}, {free, both, 1, nil, 0}, {one, rulesOf("aaa", "aa", "aaa", ""), 3, rulesOf("aa", "", "a", ""), 0}, {one, rulesOf("aaa", "a", "aa", ""), 3, nil, 0}, {one, rulesOf("aaaaa", "aaa", "aaaaaa", ""), 24, rulesOf("aaaa", "", "aaa", "a", "aa", ""), 0},
		{free, rulesOf("ab", "", "ba", "a"), 3, rulesOf("aa", "a", "a", "", "b", ""), 0},
		// The first of the longest forms, and the first of the shortest ones.
		{free, rulesOf("aaa", "ba", "aaa", "ab", "aaa", ""), 3, rulesOf("ab", "", "ba", ""), 0}, {free, rulesOf("ba", "a", "ab", "", "aba", "b"), 3, rulesOf("aa", "a", "a", "", "b", ""), 0},
		// All irreducible forms have equally many letters, also beside shorter reducts that are reducible.
		{free, same, 2, nil, state}, {free, same, 1, nil, 0}, {free, rulesOf("aab", "ab", "aab", "ba"), 3, nil, state},
		// Exactly MaxRules rules, and one more, where nothing but the number of rules differs.
		{on, large, 5, rulesOf("ab", "a", "aac", "aa", "aaa", "ac", "aca", "aa", "acc", "ac", "baa", "aa", "ac", "a", "ba", "a", "ca", "a"), 0}, {on, append(large[:1:1], large...), 5, nil, limit},
		{free, slices.Repeat(both, 6)[:11], 2, rulesOf("a", ""), 0}, {free, slices.Repeat(both, 6), 2, nil, limit}, {free, slices.Repeat(both, 6), 1, nil, 0}, {free, slices.Repeat(both, 6), 9, nil, limit},
		// Forms with equally many letters come before the number of rules.
		{free, slices.Repeat(same, 6), 2, nil, state}, {free, slices.Repeat(same, 6), 1, nil, 0},
	}
	for _, c := range cases {
		mustHaveSystem(t, c.x, c.rules)
		var want []impl.Rule
		for _, rule := range c.rules {
			want = append(want, impl.Rule{Left: refExtreme(c.x, rule.Left, 1), Right: refExtreme(c.x, rule.Right, 1)})
		}
		got, code := impl.CompleteTo(c.x, c.rules, c.n)
		mustBeRulesOrFail(t, []any{c.x, c.rules, c.n}, got, code, append(want, c.added...), c.code)
	}
}

func TestNumbersOfIrreducibleTraces(t *testing.T) {
	t.Parallel()
	one, two, x := alphabetWith(1), alphabetWith(1, 2), square()
	cases := []struct {
		x       impl.Alphabet
		rules   []impl.Rule
		n, want int64
	}{
		{one, nil, 0, 1}, {one, nil, 24, 1}, {one, rulesOf("a", ""), 0, 1}, {one, rulesOf("a", ""), 1, 0}, {one, rulesOf("a", ""), 24, 0}, {one, rulesOf("aaa", ""), 2, 1}, {one, rulesOf("aaa", ""), 3, 0}, {one, rulesOf("aaa", ""), 4, 0}, {one, rulesOf(times(24, "a"), "a"), 24, 0}, {one, rulesOf(times(24, "a"), "a"), 23, 1},
		{two, nil, 24, 25}, {two, rulesOf("ab", ""), 24, 2}, {two, rulesOf("aabb", "b", "bbba", "a"), 24, 3}, {two, deletions(two), 24, 0}, {two, deletions(two), 0, 1}, {impl.Alphabet{}, nil, 0, 1}, {impl.Alphabet{}, nil, 1, 0}, {impl.Alphabet{}, nil, 24, 0},
		{x, nil, 2, 14}, {x, rulesOf("ca", "b"), 2, 13}, {x, rulesOf("ca", "b", "ac", "", "ab", "d"), 2, 12}, {x, nil, 4, 164}, {x, rulesOf("abcda", ""), 4, 164}, {x, rulesOf("ab", "", "ba", "", "ad", "", "da", "", "bc", "", "cb", "", "cd", "", "dc", ""), 4, 10},
	}
	for _, c := range cases {
		mustHaveSystem(t, c.x, c.rules)
		number, code := impl.CountIrreducible(c.x, c.rules, c.n)
		mustBeNumber(t, "CountIrreducible", []any{c.x, c.rules, c.n}, number, code, c.want)
	}
	// Without rules these are all traces of the length, and with all letters deleted none but the empty one.
	checked := 0
	for _, y := range append(evenAlphabets(), smallAlphabets()...) {
		for n := range int64(25) {
			total, code := impl.CountIrreducible(y, nil, n)
			if code == impl.ErrLimit {
				continue
			}
			checked++
			number, numberCode := impl.CountTraces(y, n)
			mustBeNumber(t, "CountTraces", []any{y, n}, number, numberCode, total)
			none, code := impl.CountIrreducible(y, deletions(y), n)
			mustBeNumber(t, "CountIrreducible", []any{y, n}, none, code, int64(oneIf(n == 0)))
		}
	}
	if checked < 500 {
		t.Errorf("only %d numbers are checked", checked)
	}
}

// wrongSystems returns lists that are no systems of an alphabet.
func wrongSystems(x impl.Alphabet) [][]impl.Rule {
	lists := [][]impl.Rule{make([]impl.Rule, 1), make([]impl.Rule, 13), make([]impl.Rule, 100000), {{Left: []int64{x.Letters}}}, {{Right: []int64{0}}}}
	for _, w := range notWords(x.Letters) {
		lists = append(lists, []impl.Rule{{Left: w}})
	}
	if x.Letters == 0 {
		return lists
	}
	lists = append(lists, slices.Repeat(rulesOf("a", ""), 13), rulesOf("a", "a"), rulesOf("a", "aa"), rulesOf("", ""), rulesOf("a", "", "a", "a"), rulesOf("aa", "a", "", "", "a", ""), rulesOf(times(24, "a"), times(24, "a")), rulesOf(times(25, "a"), ""), rulesOf(times(25, "a"), times(24, "a")))
	for _, w := range notWords(x.Letters) {
		lists = append(lists, []impl.Rule{{Left: word(times(24, "a")), Right: w}}, append(rulesOf("aa", "a", "a", ""), impl.Rule{Left: w}))
	}
	return lists
}

func TestInvalidSystems(t *testing.T) {
	// ErrInvalid comes before ErrRange and before all other errors.
	calls := slices.Concat(wordsCalls(nil, impl.Redex{}), wordsCalls(word("abc"), impl.Redex{Rule: 1, Before: word("b")}), wordsCalls(make([]int64, 25), impl.Redex{Rule: -1, Before: []int64{-1}}), lettersCalls(0), lettersCalls(24), lettersCalls(-1), lettersCalls(25))
	lists := [][]int64{nil, word("a"), word("cabac"), {-1}, {9}, make([]int64, 25)}
	for _, x := range notAlphabets() {
		for _, rules := range [][]impl.Rule{nil, rulesOf("a", ""), rulesOf("aa", "b", "aa", "a"), rulesOf("a", "a"), make([]impl.Rule, 13)} {
			for _, w := range lists {
				for _, f := range calls {
					got, code := f.call(x, rules, w)
					mustFailLists(t, f.name, x.Depends[:min(len(x.Depends), 9)], got, code, impl.ErrInvalid)
				}
			}
		}
	}
	for _, x := range []impl.Alphabet{{}, alphabetWith(1), square(), alphabetWith(antichain(8)...), alphabetWith(complete(8)...)} {
		for _, rules := range wrongSystems(x) {
			mustBeSystem(t, x, rules, false)
			for _, w := range lists {
				for _, f := range calls {
					got, code := f.call(x, rules, w)
					mustFailLists(t, f.name, []any{x, len(rules)}, got, code, impl.ErrInvalid)
				}
			}
		}
	}
}

func TestArgumentsThatAreRefusedForRewriting(t *testing.T) {
	// ErrRange comes before ErrLimit and ErrState, whichever of two words is none. The first system has a
	// redex in each word, the second one none, and of the third one, aa splits without a rule for it.
	wide, narrow := alphabetWith(antichain(8)...), alphabetWith(complete(8)...)
	large := word("hgfedcbahgfedcbahgfedcba") // with too many prefixes in wide
	for _, x := range []impl.Alphabet{{}, alphabetWith(1), square(), wide, narrow} {
		for _, rules := range [][]impl.Rule{deletions(x), nil, rulesOf("aa", "b", "aa", "a")} {
			if !impl.IsSystem(x, rules) {
				continue
			}
			others := [][]int64{nil, make([]int64, min(x.Letters, 1)), projectedTo(x, large)}
			for _, v := range notWords(x.Letters) {
				for _, w := range others {
					for _, f := range wordsCalls(w, impl.Redex{}) {
						got, code := f.call(x, rules, v)
						mustFailLists(t, f.name, []any{x, v[:min(len(v), 30)]}, got, code, impl.ErrRange)
					}
					for _, pair := range [][2][]int64{{v, w}, {w, v}, {v, v}} {
						is, code := impl.AreJoinable(x, rules, pair[0], pair[1])
						if is || code != impl.ErrRange {
							t.Errorf("AreJoinable(%v, %v) = %v, %d", x, v[:min(len(v), 30)], is, code)
						}
					}
				}
			}
			for _, n := range []int64{-1, -24, 25, 26, 1 << 32, 1<<32 + 3, math.MaxInt64, math.MinInt64} {
				for _, f := range lettersCalls(n) {
					got, code := f.call(x, rules, nil)
					mustFailLists(t, f.name, []any{x, n}, got, code, impl.ErrRange)
				}
			}
		}
	}
}

// projectedTo returns the letters of a word that an alphabet has.
func projectedTo(x impl.Alphabet, w []int64) []int64 { return refProjection(w, 1<<x.Letters-1) }

func TestOrderOfErrorsOfRewriting(t *testing.T) {
	// All arguments are looked at for each kind of error before the next kind.
	wide, x := alphabetWith(antichain(8)...), square()
	large, rules, wrong := word("hgfedcbahgfedcbahgfedcba"), rulesOf("ac", "b"), rulesOf("ac", "bd")
	cases := []struct {
		name string
		got  int64
		want int64
	}{
		{"AreJoinable", second(impl.AreJoinable(wide, rules, large, []int64{8})), impl.ErrRange}, {"AreJoinable", second(impl.AreJoinable(wide, rules, []int64{8}, large)), impl.ErrRange}, {"AreJoinable", second(impl.AreJoinable(wide, wrong, []int64{8}, large)), impl.ErrInvalid},
		{"AreJoinable", second(impl.AreJoinable(wide, rules, large, nil)), impl.ErrLimit}, {"AreJoinable", second(impl.AreJoinable(wide, rules, nil, large)), impl.ErrLimit}, {"AreJoinable", second(impl.AreJoinable(wide, rules, large, large)), impl.ErrLimit},
		{"ApplyRedex", second(impl.ApplyRedex(x, rules, word("ab"), impl.Redex{Rule: 1})), impl.ErrRange}, {"ApplyRedex", second(impl.ApplyRedex(x, rules, []int64{4}, impl.Redex{})), impl.ErrRange}, {"ApplyRedex", second(impl.ApplyRedex(x, rules, word("ab"), impl.Redex{Behind: []int64{-1}})), impl.ErrRange},
		{"ApplyRedex", second(impl.ApplyRedex(x, wrong, []int64{4}, impl.Redex{Rule: 1})), impl.ErrInvalid}, {"ApplyRedex", second(impl.ApplyRedex(x, rules, word("ab"), impl.Redex{})), impl.ErrState}, {"ApplyRedex", second(impl.ApplyRedex(wide, rules, large, impl.Redex{Before: large})), impl.ErrState},
		{"FirstSplit", second(impl.FirstSplit(wide, rules, 25)), impl.ErrRange}, {"FirstSplit", second(impl.FirstSplit(wide, wrong, 25)), impl.ErrInvalid}, {"FirstSplit", second(impl.FirstSplit(wide, rules, 24)), impl.ErrLimit}, {"FirstSplit", second(impl.FirstSplit(wide, rules, 1)), no},
		{"CompleteTo", second(impl.CompleteTo(wide, rules, 25)), impl.ErrRange}, {"CompleteTo", second(impl.CompleteTo(wide, wrong, 25)), impl.ErrInvalid}, {"CompleteTo", second(impl.CompleteTo(wide, rules, 24)), impl.ErrLimit}, {"CompleteTo", second(impl.CompleteTo(wide, rules, 1)), impl.ErrNone},
		{"CountIrreducible", second(impl.CountIrreducible(wide, rules, 25)), impl.ErrRange}, {"CountIrreducible", second(impl.CountIrreducible(wide, wrong, 25)), impl.ErrInvalid}, {"CountIrreducible", second(impl.CountIrreducible(wide, rules, 24)), impl.ErrLimit},
		{"RedexesOf", second(impl.RedexesOf(wide, wrong, large)), impl.ErrInvalid}, {"RedexesOf", second(impl.RedexesOf(wide, rules, large)), impl.ErrLimit}, {"ReductsOf", second(impl.ReductsOf(wide, rules, large)), impl.ErrLimit}, {"IrreducibleForms", second(impl.IrreducibleForms(wide, rules, large)), impl.ErrLimit},
	}
	for i, c := range cases {
		if c.got != c.want {
			t.Errorf("%s returns %d in the case %d, and not %d", c.name, c.got, i, c.want)
		}
	}
}

// second returns the second result of a function.
func second[V any](_ V, code int64) int64 { return code }

func TestRewritingIsTheSameForAllWords(t *testing.T) {
	t.Parallel()
	someSystems(530, 150, 4, func(x *numbers, y impl.Alphabet, rules []impl.Rule, w []int64) {
		var others []impl.Rule
		for _, rule := range rules {
			others = append(others, impl.Rule{Left: exchanged(x, y, rule.Left, 9), Right: exchanged(x, y, rule.Right, 9)})
		}
		v, u := exchanged(x, y, w, 60), someWord(x, int(y.Letters), x.below(9))
		redex := impl.Redex{}
		if redexes, code := impl.RedexesOf(y, rules, w); code == impl.ErrNone && len(redexes) > 0 {
			redex = redexes[x.below(len(redexes))]
		}
		calls, otherCalls := append(wordsCalls(u, redex), lettersCalls(2)...), append(wordsCalls(exchanged(x, y, u, 9), redex), lettersCalls(2)...)
		for i, f := range calls {
			got, code := f.call(y, rules, w)
			want, wantCode := otherCalls[i].call(y, others, v)
			if code != wantCode || !areEqualLists(got, want) {
				t.Errorf("%s(%v, %v, %v) = %v, %d, and of %v and %v = %v, %d", f.name, y, rules, w, got, code, others, v, want, wantCode)
			}
		}
	})
}

// mustApply returns the trace to which applying a redex leads.
func mustApply(t *testing.T, x impl.Alphabet, rules []impl.Rule, w []int64, r impl.Redex) []int64 {
	t.Helper()
	got, code := impl.ApplyRedex(x, rules, w, r)
	if code != impl.ErrNone {
		t.Fatalf("ApplyRedex(%v, %v, %v, %v): code %d", x, rules, w, r, code)
	}
	return got
}

func TestPromise10OnRedexes(t *testing.T) {
	t.Parallel()
	applied := 0
	someSystems(540, 4096, 12, func(x *numbers, y impl.Alphabet, rules []impl.Rule, w []int64) {
		shown := []any{y, rules, w}
		redexes, code := impl.RedexesOf(y, rules, w)
		mustList(t, "RedexesOf", nil, code)
		var led [][]int64
		for i, r := range redexes {
			if i > 0 && compareRedexes(redexes[i-1], r) >= 0 {
				t.Errorf("RedexesOf(%v) has %v before %v", shown, redexes[i-1], r)
			}
			if len(redexes) > 500 && x.below(len(redexes)) >= 500 { // only some, as there are so many
				continue
			}
			whole := mustHave(t, impl.Concatenate, y, mustHave(t, impl.Concatenate, y, r.Before, rules[r.Rule].Left), r.Behind)
			mustAgree(t, shown, whole, mustGive(t, y, w))
			mustAgree(t, shown, slices.Concat(mustGive(t, y, r.Before), mustGive(t, y, r.Behind)), slices.Concat(r.Before, r.Behind))
			reduct := mustApply(t, y, rules, w, r)
			if len(reduct) != len(w)-len(rules[r.Rule].Left)+len(rules[r.Rule].Right) || len(reduct) >= len(w) {
				t.Errorf("the redex %v of %v leads to %v", r, shown, reduct)
			}
			led = append(led, reduct)
			applied++
		}
		reducts, code := impl.ReductsOf(y, rules, w)
		mustList(t, "ReductsOf", nil, code)
		if len(redexes) <= 500 {
			mustBeLists(t, "ReductsOf", shown, reducts, code, distinct(led))
		}
		is, code := impl.IsIrreducible(y, rules, w)
		mustReport(t, "IsIrreducible", shown, is, code, len(redexes) == 0)
	})
	if applied < 5000 {
		t.Errorf("only %d redexes are applied", applied)
	}
}

func TestPromise10OnForms(t *testing.T) {
	t.Parallel()
	several, reduced := 0, 0
	someSystems(550, 300, 4, func(x *numbers, y impl.Alphabet, rules []impl.Rule, w []int64) {
		forms, code := impl.IrreducibleForms(y, rules, w)
		if code == impl.ErrLimit {
			return
		}
		shown := []any{y, rules, w}
		if mustList(t, "IrreducibleForms", nil, code); len(forms) == 0 {
			t.Errorf("IrreducibleForms(%v) has no trace", shown)
		}
		for _, form := range forms[:min(len(forms), 5)] {
			is, code := impl.IsIrreducible(y, rules, form)
			mustReport(t, "IsIrreducible", form, is, code, true)
			none, code := impl.RedexesOf(y, rules, form)
			mustBeRedexes(t, form, none, code, nil)
			is, code = impl.AreJoinable(y, rules, w, form)
			mustReport(t, "AreJoinable", append(shown, form), is, code, true)
		}
		// The first redexes lead to one of them, and those of all reducts are all of them.
		end, applied, code := impl.ReduceFirst(y, rules, w)
		mustList(t, "ReduceFirst", end, code)
		if !slices.ContainsFunc(forms, func(form []int64) bool { return slices.Equal(form, end) }) || (applied == 0) != slices.Equal(end, mustGive(t, y, w)) {
			t.Errorf("ReduceFirst(%v) = %v, %d, and the forms are %v", shown, end, applied, forms)
		}
		reducts, code := impl.ReductsOf(y, rules, w)
		mustList(t, "ReductsOf", nil, code)
		var all [][]int64
		for _, reduct := range reducts[:min(len(reducts), 30)] {
			some, code := impl.IrreducibleForms(y, rules, reduct)
			mustList(t, "IrreducibleForms", nil, code)
			all = append(all, some...)
		}
		if len(reducts) > 0 && len(reducts) <= 30 {
			mustBeLists(t, "IrreducibleForms", shown, forms, code, distinct(all))
			reduced++
		}
		several += oneIf(len(forms) > 1)
	})
	if several < 30 || reduced < 100 {
		t.Errorf("only %d words are reduced, and %d have several forms", reduced, several)
	}
}

// completions calls a function with alphabets, rules, and what CompleteTo returns for them and n letters.
func completions(t *testing.T, seed numbers, call func(x *numbers, y impl.Alphabet, rules, completed []impl.Rule, n int64)) {
	t.Helper()
	x := seed
	for _, y := range smallAlphabets() {
		if y.Letters == 0 {
			continue
		}
		n := []int64{0, 9, 6, 5, 4}[y.Letters]
		rules := shortRules(int(y.Letters), int(2+8/(y.Letters*y.Letters)))
		for range 6 * (5 - y.Letters) * (5 - y.Letters) {
			some := chosen(&x, rules, 1+x.below(4))
			completed, code := impl.CompleteTo(y, some, n)
			if code == impl.ErrNone {
				call(&x, y, some, completed, n)
			}
		}
	}
}

func TestPromise10OnCompletions(t *testing.T) {
	t.Parallel()
	checked, added := 0, 0
	completions(t, 560, func(x *numbers, y impl.Alphabet, rules, completed []impl.Rule, n int64) {
		shown := []any{y, rules, n}
		mustHaveSystem(t, y, completed)
		split, code := impl.FirstSplit(y, completed, n)
		mustFail(t, "FirstSplit of "+key(completed), nil, split, code, no)
		again, code := impl.CompleteTo(y, completed, n)
		mustBeRulesOrFail(t, shown, again, code, completed, impl.ErrNone)
		for i, rule := range completed {
			mustAgree(t, shown, slices.Concat(rule.Left, rule.Right), slices.Concat(mustGive(t, y, rule.Left), mustGive(t, y, rule.Right)))
			if i < len(rules) {
				mustAgree(t, shown, slices.Concat(rule.Left, rule.Right), slices.Concat(mustGive(t, y, rules[i].Left), mustGive(t, y, rules[i].Right)))
				continue
			}
			// The first trace that split was one from which both sides came.
			split, code = impl.FirstSplit(y, completed[:i], n)
			mustList(t, "FirstSplit", split, code)
			forms, code := impl.IrreducibleForms(y, completed[:i], split)
			mustList(t, "IrreducibleForms", nil, code)
			want, _ := refNewRule(forms)
			mustAgree(t, shown, slices.Concat(rule.Left, []int64{-1}, rule.Right), slices.Concat(want.Left, []int64{-1}, want.Right))
			joined, code := impl.AreJoinable(y, completed, rule.Left, rule.Right)
			mustReport(t, "AreJoinable", shown, joined, code, true)
			added++
		}
		checked++
	})
	if checked < 400 || added < 300 {
		t.Errorf("only %d systems are completed, with %d rules", checked, added)
	}
}

// someReduction applies redexes of a trace, which x selects, as long as there is one.
func someReduction(t *testing.T, x *numbers, y impl.Alphabet, rules []impl.Rule, w []int64) []int64 {
	t.Helper()
	for {
		redexes, code := impl.RedexesOf(y, rules, w)
		mustList(t, "RedexesOf", nil, code)
		if len(redexes) == 0 {
			return mustGive(t, y, w)
		}
		w = mustApply(t, y, rules, w, redexes[x.below(len(redexes))])
	}
}

func TestPromise28(t *testing.T) {
	t.Parallel()
	traces, joined := 0, [2]int{}
	completions(t, 570, func(x *numbers, y impl.Alphabet, rules, completed []impl.Rule, n int64) {
		if x.below(4) > 0 {
			return
		}
		normals, _ := normalsUpTo(y, int(n), 2000)
		ends := map[string][]int64{}
		for _, w := range normals {
			if x.below(3) > 0 && len(normals) > 100 {
				continue
			}
			shown := []any{y, completed, w}
			forms, code := impl.IrreducibleForms(y, completed, w)
			mustBeLists(t, "IrreducibleForms", shown, forms, code, forms[:1])
			end, _, code := impl.ReduceFirst(y, completed, w)
			mustBe(t, "ReduceFirst of "+key(shown), w, end, code, forms[0])
			mustAgree(t, shown, someReduction(t, x, y, completed, exchanged(x, y, w, 9)), end)
			reducts, code := impl.ReductsOf(y, completed, w)
			mustList(t, "ReductsOf", nil, code)
			for _, reduct := range reducts[:min(len(reducts), 3)] {
				got, code := impl.IrreducibleForms(y, completed, reduct)
				mustBeLists(t, "IrreducibleForms", shown, got, code, forms)
			}
			ends[refWordText(w)] = end
			traces++
		}
		// Two of these traces are joinable exactly if they have the same form.
		for range 20 {
			u, v := normals[x.below(len(normals))], normals[x.below(len(normals))]
			if ends[refWordText(u)] == nil || ends[refWordText(v)] == nil {
				continue
			}
			is, code := impl.AreJoinable(y, completed, u, v)
			areEqual := slices.Equal(ends[refWordText(u)], ends[refWordText(v)])
			mustReport(t, "AreJoinable", []any{y, completed, u, v}, is, code, areEqual)
			joined[oneIf(is)]++
		}
	})
	if traces < 5000 || joined[0] < 200 || joined[1] < 200 {
		t.Errorf("only %d traces are reduced, and %v pairs are apart and joined", traces, joined)
	}
}

func TestPromise28WhereTracesSplit(t *testing.T) {
	t.Parallel()
	splits := 0
	for _, y := range smallAlphabets() {
		if y.Letters == 0 {
			continue
		}
		x := numbers(580 + len(y.Depends))
		for range 30 {
			rules := chosen(&x, shortRules(int(y.Letters), 2), 2+x.below(3))
			split, code := impl.FirstSplit(y, rules, 4)
			if code == no {
				continue
			}
			mustList(t, "FirstSplit", split, code)
			normals, _ := normalsUpTo(y, len(split), 2000)
			for _, w := range normals {
				forms, code := impl.IrreducibleForms(y, rules, w)
				mustList(t, "IrreducibleForms", nil, code)
				isBefore := len(w) < len(split) || slices.Compare(w, split) < 0
				if isBefore && len(forms) != 1 || slices.Equal(w, split) && len(forms) < 2 {
					t.Errorf("FirstSplit(%v, %v) = %v, and the forms of %v are %v", y, rules, split, w, forms)
				}
			}
			splits++
		}
	}
	if splits < 300 {
		t.Errorf("only %d systems split", splits)
	}
}

// groupSystem returns the alphabet with a letter for each signed letter of an alphabet, in their order,
// and the rules that remove a signed letter and its inverse behind it.
func groupSystem(x impl.Alphabet) (impl.Alphabet, []impl.Rule) {
	var rules []impl.Rule
	for s := range 2 * x.Letters {
		rules = append(rules, impl.Rule{Left: []int64{s, s ^ 1}})
	}
	both := alphabetWhere(int(2*x.Letters), func(i, k int) bool { return related(x.Depends, i/2, k/2) })
	return both, rules
}

// placesOf returns the letters of that alphabet for a signed word.
func placesOf(w []int64) []int64 {
	var letters []int64
	for _, s := range w {
		letters = append(letters, place(s))
	}
	return letters
}

// checkGroupReduction reports an error unless rewriting finds the normal form of an element.
func checkGroupReduction(t *testing.T, x impl.Alphabet, w []int64) {
	t.Helper()
	both, rules := groupSystem(x)
	shown, normal := []any{x, w}, placesOf(mustForm(t, x, w))
	end, applied, code := impl.ReduceFirst(both, rules, placesOf(w))
	if code == impl.ErrLimit {
		return
	}
	mustBe(t, "ReduceFirst of "+key(shown), w, end, code, normal)
	mustBeNumber(t, "the number of ReduceFirst", shown, applied, code, int64(len(w)-len(normal))/2)
	is, code := impl.IsIrreducible(both, rules, placesOf(w))
	mustReport(t, "IsIrreducible", shown, is, code, len(normal) == len(w))
	forms, code := impl.IrreducibleForms(both, rules, placesOf(w))
	if code != impl.ErrLimit {
		mustBeLists(t, "IrreducibleForms", shown, forms, code, [][]int64{normal})
	}
}

func TestPromise27OnRewritingShortWords(t *testing.T) {
	t.Parallel()
	equal := 0
	for _, x := range smallAlphabets() {
		both, rules := groupSystem(x)
		mustHaveSystem(t, both, rules)
		n := []int64{24, 8, 4, 3, 3}[x.Letters]
		split, code := impl.FirstSplit(both, rules, n)
		mustFail(t, "FirstSplit", []int64{x.Letters, n}, split, code, no)
		number, code := impl.CountIrreducible(both, rules, n)
		elements, elementsCode := impl.CountElements(x, n)
		mustBeNumber(t, "CountIrreducible", x, number, code, elements)
		mustList(t, "CountElements", nil, elementsCode)
		list := signedWordsUpTo(x.Letters, []int{1, 7, 4, 3, 2}[x.Letters])
		for i, u := range list {
			checkGroupReduction(t, x, u)
			for k := i % 7; k < len(list); k += 7 {
				is, code := impl.AreGroupEqual(x, u, list[k])
				mustList(t, "AreGroupEqual", nil, code)
				joined, code := impl.AreJoinable(both, rules, placesOf(u), placesOf(list[k]))
				mustReport(t, "AreJoinable", []any{x, u, list[k]}, joined, code, is)
				equal += oneIf(is)
			}
		}
	}
	if equal < 5000 {
		t.Errorf("only %d pairs are equal", equal)
	}
}

func TestPromise27OnRewritingLongWords(t *testing.T) {
	t.Parallel()
	equal, apart, limited := 0, 0, 0
	x := numbers(590)
	for _, y := range smallAlphabets() {
		if y.Letters == 0 {
			continue
		}
		both, rules := groupSystem(y)
		for range 3 {
			u := disguised(&x, y, someElement(&x, y), 30)
			checkGroupReduction(t, y, u)
			for _, v := range [][]int64{disguised(&x, y, u, 30), changed(&x, int(y.Letters), u), someElement(&x, y)} {
				is, code := impl.AreGroupEqual(y, u, v)
				mustList(t, "AreGroupEqual", nil, code)
				joined, code := impl.AreJoinable(both, rules, placesOf(u), placesOf(v))
				if code == impl.ErrLimit {
					limited++
					continue
				}
				mustReport(t, "AreJoinable", []any{y, u, v}, joined, code, is)
				equal += oneIf(is)
				apart += oneIf(!is)
			}
		}
	}
	if equal < 100 || apart < 80 {
		t.Errorf("%d pairs are equal and %d are not, and %d have too many traces", equal, apart, limited)
	}
}

// checkFactor reports an error unless RedexesOf and FactorBefore tell where a trace that is not empty is
// a factor of another one, whatever the rule makes of it.
func checkFactor(t *testing.T, x *numbers, y impl.Alphabet, u, v []int64) bool {
	t.Helper()
	shown := []any{y, u, v}
	before, beforeCode := impl.FactorBefore(y, u, v)
	rules := []impl.Rule{{Left: u, Right: someWord(x, int(y.Letters), x.below(len(u)))}}
	is, code := impl.IsIrreducible(y, rules, v)
	mustReport(t, "IsIrreducible", shown, is, code, beforeCode == no)
	redexes, code := impl.RedexesOf(y, rules, v)
	if code == impl.ErrLimit {
		return false
	}
	mustList(t, "RedexesOf", nil, code)
	if (len(redexes) > 0) != (beforeCode == impl.ErrNone) {
		t.Errorf("RedexesOf(%v) has %d redexes, and FactorBefore returns %d", shown, len(redexes), beforeCode)
	}
	if len(redexes) > 0 {
		mustAgree(t, shown, redexes[0].Before, before)
		if len(redexes) > 1 && len(redexes[1].Before) <= len(before) {
			t.Errorf("%v are two first redexes of %v", redexes[:2], shown)
		}
	}
	return len(redexes) > 0
}

func TestPromise5OnRules(t *testing.T) {
	t.Parallel()
	factors, others := 0, 0
	for seed := range numbers(2) {
		someFactors(600+seed, func(x *numbers, y impl.Alphabet, p, u, s, w []int64) {
			for _, f := range [][]int64{u, exchanged(x, y, u, 9), reversed(u), someWord(x, int(y.Letters), 2), p[:len(p)/2], s, w, append(slices.Clone(w), 0)} {
				if len(f) > 0 && len(f) <= 24 {
					is := checkFactor(t, x, y, f, w)
					factors += oneIf(is)
					others += oneIf(!is)
				}
			}
		})
	}
	for _, x := range smallAlphabets() {
		y := numbers(610)
		list := wordsUpTo(int(x.Letters), []int{1, 6, 5, 4, 3}[x.Letters])
		for i, u := range list {
			for k := i % 3; k < len(list) && len(u) > 0; k += 3 {
				checkFactor(t, &y, x, u, list[k])
			}
		}
	}
	if factors < 1000 || others < 500 {
		t.Errorf("%d words are factors, and %d are none", factors, others)
	}
}

// slowSystems has systems with many redexes, reducts or traces on the way.
func slowSystems() []struct {
	x     impl.Alphabet
	rules []impl.Rule
	texts []string
} {
	wide, six, pairs := alphabetWith(antichain(8)...), alphabetWith(antichain(6)...), groups(true, 2, 2, 2, 2)
	path := alphabetWhere(8, func(i, k int) bool { return i == k+1 })
	var ones []impl.Rule // from which one letter is removed
	for i := range 6 {
		ones = append(ones, impl.Rule{Left: word("abcdef"), Right: slices.Delete(word("abcdef"), i, i+1)})
	}
	return []struct {
		x     impl.Alphabet
		rules []impl.Rule
		texts []string
	}{
		{six, append(deletions(six), deletions(six)...), []string{"fedcbafedcbafedcba", times(24, "a"), "aaaaaaabbbbbbbcccccccdef"}}, {six, append(ones[:6:6], ones...), []string{"fedcbafedcbafedcba"}}, {wide, append(deletions(wide), rulesOf("abcd", "efg", "efgh", "abc", "ah", "d", "bg", "c")...), []string{"abcdefghabcd", "hgfedcbahgfedcbahgfedcba", "aabbccdd"}},
		{pairs, rulesOf("ab", "a", "cd", "c", "ef", "f", "gh", "g", "ba", "b", "dc", "d", "fe", "e", "hg", "g", "abcd", "acd", "abef", "bef", "cdgh", "dgh", "efgh", "fgh"), []string{"abcdefghabcdefghabcdefgh", "hgfedcbahgfedcbahgfedcba", times(12, "ab"), times(8, "ace")}},
		// There are 609 traces on the way, and most sites lead to the same reducts.
		{alphabetWith(1, 2, 4, 8, 16, 32, 192, 192), slices.Repeat(rulesOf("g", "", "h", ""), 6), []string{"aaabbbcccdddghghghghghgh"}},
		{path, rulesOf("ab", "b", "bc", "c", "cd", "d", "ef", "f", "gh", "g", "ac", "a", "ce", "e", "eg", "c", "bd", "d", "df", "f", "fh", "h", "aceg", "ac"), []string{"acegbdfhacegbdfhacegbdfh", "hgfedcbahgfedcbahgfedcba", times(24, "h")}}, {alphabetWith(complete(8)...), deletions(alphabetWith(complete(8)...)), []string{"hgfedcbahgfedcbahgfedcba", times(24, "h")}},
	}
}

func TestRewritingIsFast(t *testing.T) {
	t.Parallel()
	for _, c := range slowSystems() {
		mustHaveSystem(t, c.x, c.rules)
		for _, text := range c.texts {
			for _, f := range slices.Concat(wordsCalls(word(text), impl.Redex{}), wordsCalls(nil, impl.Redex{Before: word(text), Behind: word(text)})) {
				within(t, f.name, func() { f.call(c.x, c.rules, word(text)) })
			}
		}
		for n := range int64(25) {
			for _, f := range lettersCalls(n) {
				within(t, f.name, func() { f.call(c.x, c.rules, nil) })
				within(t, f.name, func() {
					f.call(alphabetWith(antichain(3)...), rulesOf("abc", "ab", "aabbcc", "a", "aaaa", "bbb", "ccc", "ab"), nil)
				})
			}
		}
	}
	wide, huge, many := alphabetWith(antichain(8)...), make([]int64, 5000000), make([]impl.Rule, 1000000)
	for _, f := range slices.Concat(wordsCalls(huge, impl.Redex{Before: huge, Behind: huge}), lettersCalls(math.MaxInt64), lettersCalls(24)) {
		within(t, f.name, func() { f.call(wide, deletions(wide), huge) })
		within(t, f.name, func() { f.call(wide, []impl.Rule{{Left: huge, Right: huge}}, nil) })
		within(t, f.name, func() { f.call(wide, many, nil) })
	}
}

// spaciousRules returns copies of rules, with capacity behind each of their sides and behind all of them,
// and a function that reports whether they are as they were.
func spaciousRules(rules []impl.Rule) ([]impl.Rule, func() bool) {
	sides, areKept := spaciousLists(ruleLists(rules))
	var room []impl.Rule
	for i := 0; i < len(sides); i += 2 {
		room = append(room, impl.Rule{Left: sides[i], Right: sides[i+1]})
	}
	room = append(room, impl.Rule{Left: []int64{-73}}, impl.Rule{Right: []int64{-74}})
	before := slices.Clone(room)
	return room[:len(rules)], func() bool {
		return areKept() && areEqualLists(ruleLists(room), ruleLists(before))
	}
}

func TestRewritingSharesNoMemory(t *testing.T) {
	systems := [][]impl.Rule{nil, rulesOf("ac", "b"), rulesOf("ca", "b", "db", ""), rulesOf("aa", "a", "aa", ""), rulesOf("dcba", "dba", "ca", "", "bd", "d"), rulesOf("ab", "a", "ba", "b", "cd", "dc"[:1], "b", "")}
	for _, system := range systems {
		for _, texts := range [][4]string{{"", "", "", ""}, {"cabac", "cab", "", "bca"}, {"dcba", "ac", "", ""}, {"aaca", "a", "a", "c"}, {"bdbd", "d", "b", "d"}, {"cdab", "b", "", "ba"}} {
			depends, isDependsKept := spacious(square().Depends)
			x := impl.Alphabet{Letters: 4, Depends: depends}
			rules, areRulesKept := spaciousRules(system)
			var parts [4][]int64
			var checks [4]func() bool
			for i, text := range texts {
				parts[i], checks[i] = spacious(word(text))
			}
			areKept := func() bool {
				return isDependsKept() && areRulesKept() && !slices.ContainsFunc(checks[:], func(isKept func() bool) bool { return !isKept() })
			}
			impl.IsSystem(x, rules)
			for rule := range int64(3) {
				redex := impl.Redex{Rule: rule, Before: parts[2], Behind: parts[3]}
				for _, f := range slices.Concat(wordsCalls(parts[1], redex), lettersCalls(rule), lettersCalls(4)) {
					checkFresh(t, f.name+" of "+key([]any{system, texts}), areKept, func() ([][]int64, int64) { return f.call(x, rules, parts[0]) })
				}
			}
		}
	}
}
