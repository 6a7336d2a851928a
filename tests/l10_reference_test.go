package tests

import (
	"cmp"
	"slices"
	"testing"

	"loop.example/g01094/impl"
)

// The functions of this file follow the definitions of chapter 10: for short traces by looking at all
// ways to divide them, and for long ones at all their prefixes, and in other ways than the program does.

// rulesOf returns the rules with some sides, two texts for each rule.
func rulesOf(sides ...string) []impl.Rule {
	var rules []impl.Rule
	for i := 0; i < len(sides); i += 2 {
		rules = append(rules, impl.Rule{Left: word(sides[i]), Right: word(sides[i+1])})
	}
	return rules
}

// refIsSystem follows the definitions for alphabets, words and systems.
func refIsSystem(x impl.Alphabet, rules []impl.Rule) bool {
	if !refIsAlphabet(x) || len(rules) > 12 {
		return false
	}
	for _, rule := range rules {
		if !refIsWord(x, rule.Left) || !refIsWord(x, rule.Right) || len(rule.Left) <= len(rule.Right) {
			return false
		}
	}
	return true
}

// shortSystem is a system with the short traces of its alphabet, and what it makes of them. Traces are
// given by their numbers, and -1 stands for a trace that is not short.
type shortSystem struct {
	divisions
	rules   []impl.Rule
	redexes [][]shortRedex // the redexes of each trace, in order
	reducts [][]int        // the reducts of each trace, each one once
	reached [][]int        // the traces to which each trace leads
	forms   [][]int        // the irreducible forms of each trace
}

// shortRedex is a redex of a short trace.
type shortRedex struct{ rule, before, behind int }

// numberOf returns the number of the trace of a word.
func (d divisions) numberOf(w []int64) int {
	if v, isShort := d.number[refWordText(w)]; isShort {
		return v
	}
	return -1
}

// systemOf returns a system with the short traces of an alphabet.
func (d divisions) systemOf(rules []impl.Rule) *shortSystem {
	s := &shortSystem{divisions: d, rules: rules}
	for v := range d.classes {
		redexes := s.redexesOf(v)
		var reducts []int
		for _, r := range redexes {
			reducts = append(reducts, s.numberOf(s.appliedTo(r)))
		}
		s.redexes, s.reducts = append(s.redexes, redexes), append(s.reducts, distinctOf(reducts))
		reached := []int{v}
		for _, reduct := range s.reducts[v] { // which is shorter, and has its traces already
			reached = append(reached, s.reached[reduct]...)
		}
		s.reached = append(s.reached, distinctOf(reached))
		isReducible := func(u int) bool { return len(s.redexes[u]) > 0 }
		s.forms = append(s.forms, slices.DeleteFunc(slices.Clone(s.reached[v]), isReducible))
	}
	return s
}

// distinctOf returns the elements of a list in ascending order, each one once.
func distinctOf(list []int) []int {
	list = slices.Clone(list)
	slices.Sort(list)
	return slices.Compact(list)
}

// redexesOf looks at all traces as Before, in the order of their numbers, which is that of redexes.
func (s *shortSystem) redexesOf(v int) []shortRedex {
	var list []shortRedex
	for i, rule := range s.rules {
		left := s.numberOf(rule.Left)
		if left < 0 {
			continue
		}
		for before, behind := range s.left[v] {
			if behind >= 0 && s.isPrefix(left, behind) {
				list = append(list, shortRedex{i, before, s.left[behind][left]})
			}
		}
	}
	return list
}

// appliedTo returns a word of the trace to which applying a redex leads.
func (s *shortSystem) appliedTo(r shortRedex) []int64 {
	return slices.Concat(s.normal(r.before), s.rules[r.rule].Right, s.normal(r.behind))
}

// shown returns a redex as the program has it.
func (s *shortSystem) shown(r shortRedex) impl.Redex {
	return impl.Redex{Rule: int64(r.rule), Before: s.normal(r.before), Behind: s.normal(r.behind)}
}

// normals returns the normal forms of some traces in ascending order.
func (d divisions) normals(list []int) [][]int64 {
	var normals [][]int64
	for _, v := range list {
		normals = append(normals, d.normal(v))
	}
	slices.SortFunc(normals, slices.Compare[[]int64])
	return normals
}

// split returns the first trace with at most n letters that has more than one irreducible form, or -1.
func (s *shortSystem) split(n int) int {
	hasMore := func(v int) bool { return s.length(v) <= n && len(s.forms[v]) > 1 }
	return append(s.where(hasMore), -1)[0]
}

// completed returns what CompleteTo must return.
func (s *shortSystem) completed(n int) ([]impl.Rule, int64) {
	var rules []impl.Rule
	for _, rule := range s.rules {
		rules = append(rules, impl.Rule{Left: refExtreme(s.x, rule.Left, 1), Right: refExtreme(s.x, rule.Right, 1)})
	}
	for at := s.systemOf(rules); at.split(n) >= 0; at = s.systemOf(rules) {
		rule, ok := refNewRule(at.normals(at.forms[at.split(n)]))
		if !ok {
			return nil, impl.ErrState
		}
		if len(rules) == 12 {
			return nil, impl.ErrLimit
		}
		rules = append(rules, rule)
	}
	return rules, impl.ErrNone
}

// refNewRule returns the rule that is added for some irreducible forms, and whether there is one.
func refNewRule(forms [][]int64) (impl.Rule, bool) {
	rule := impl.Rule{Left: forms[0], Right: forms[0]}
	for _, w := range forms {
		if len(w) > len(rule.Left) {
			rule.Left = w
		}
		if len(w) < len(rule.Right) {
			rule.Right = w
		}
	}
	return rule, len(rule.Left) > len(rule.Right)
}

// irreducible returns the number of the irreducible traces with n letters.
func (s *shortSystem) irreducible(n int) int64 {
	return int64(len(s.where(func(v int) bool { return s.length(v) == n && len(s.redexes[v]) == 0 })))
}

// compareRedexes compares redexes in their order.
func compareRedexes(p, q impl.Redex) int {
	byRule, byLength := cmp.Compare(p.Rule, q.Rule), cmp.Compare(len(p.Before), len(q.Before))
	return cmp.Or(byRule, byLength, slices.Compare(p.Before, q.Before), slices.Compare(p.Behind, q.Behind))
}

// refRedexes looks at all prefixes of the trace of w, and at what they leave of it, which begins with
// Left exactly if its pair projections begin with those of Left.
func refRedexes(x impl.Alphabet, rules []impl.Rule, w []int64) []impl.Redex {
	normal := refExtreme(x, w, 1)
	downsets := grownDownsets(refOrder(x, normal))
	var list []impl.Redex
	for i, rule := range rules {
		for _, s := range downsets {
			rest := lettersAt(normal, 1<<len(w)-1-s)
			if areProjectedPrefixes(x, rule.Left, rest) {
				before, behind := lettersAt(normal, s), lessFirst(rule.Left, rest)
				list = append(list, impl.Redex{Rule: int64(i), Before: refExtreme(x, before, 1), Behind: refExtreme(x, behind, 1)})
			}
		}
	}
	slices.SortFunc(list, compareRedexes)
	return list
}

// refApplied returns the trace to which applying a redex leads.
func refApplied(x impl.Alphabet, rules []impl.Rule, r impl.Redex) []int64 {
	return refExtreme(x, slices.Concat(r.Before, rules[r.Rule].Right, r.Behind), 1)
}

// refReducts returns the reducts of a trace with some redexes.
func refReducts(x impl.Alphabet, rules []impl.Rule, redexes []impl.Redex) [][]int64 {
	var list [][]int64
	for _, r := range redexes {
		list = append(list, refApplied(x, rules, r))
	}
	return distinct(list)
}

// reduction has the traces to which a trace leads, and those of them that are irreducible, under their
// texts.
type reduction struct{ reached, forms map[string][]int64 }

// reductionOf goes from the trace of w to its reducts, and from these to theirs, and returns false if
// there are more than limit traces.
func reductionOf(x impl.Alphabet, rules []impl.Rule, w []int64, limit int) (reduction, bool) {
	normal := refExtreme(x, w, 1)
	r := reduction{map[string][]int64{refWordText(normal): normal}, map[string][]int64{}}
	for waiting := [][]int64{normal}; len(waiting) > 0; {
		var next [][]int64
		for _, v := range waiting {
			reducts := refReducts(x, rules, refRedexes(x, rules, v))
			if len(reducts) == 0 {
				r.forms[refWordText(v)] = v
			}
			for _, u := range reducts {
				if _, isKnown := r.reached[refWordText(u)]; !isKnown {
					r.reached[refWordText(u)] = u
					next = append(next, u)
				}
			}
			if len(r.reached) > limit {
				return r, false
			}
		}
		waiting = next
	}
	return r, true
}

// sorted returns some words in ascending order.
func sorted(list map[string][]int64) [][]int64 {
	var words [][]int64
	for _, w := range list {
		words = append(words, w)
	}
	return distinct(words)
}

// areJoined reports whether two traces lead to a common one.
func areJoined(p, q reduction) bool {
	for text := range p.reached {
		if _, isCommon := q.reached[text]; isCommon {
			return true
		}
	}
	return false
}

// mustHaveSystem reports an error unless rules are a system.
func mustHaveSystem(t *testing.T, x impl.Alphabet, rules []impl.Rule) {
	t.Helper()
	if !impl.IsSystem(x, rules) {
		t.Fatalf("IsSystem(%v, %v) is false", x, rules)
	}
}
