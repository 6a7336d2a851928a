package tests

import (
	"slices"
	"strings"

	"loop.example/g01094/impl"
)

// The functions of this file follow the definitions of chapter 11: for small automata by looking at all
// words up to a length, and for larger ones by tables of pairs of states and by layers of the states that
// words of a length lead to the end, in other ways than the program does.

// automatonWith returns an automaton, or what shall not be one.
func automatonWith(letters, start, final int64, next ...[]int64) impl.Automaton {
	return impl.Automaton{Letters: letters, Start: start, Final: final, Next: next}
}

func areEqualAutomata(m, k impl.Automaton) bool {
	return m.Letters == k.Letters && m.Start == k.Start && m.Final == k.Final && areEqualLists(m.Next, k.Next)
}

func refIsAutomaton(m impl.Automaton) bool {
	states := int64(len(m.Next))
	if m.Letters < 0 || m.Letters > 8 || states == 0 || states > 16 || m.Start < 0 || m.Start >= states || m.Final < 0 || m.Final >= 1<<states {
		return false
	}
	for _, row := range m.Next {
		if int64(len(row)) != m.Letters {
			return false
		}
		for _, next := range row {
			if next < -1 || next >= states {
				return false
			}
		}
	}
	return true
}

// refAfter returns the state to which a word, of any length, leads from a state, or -1.
func refAfter(m impl.Automaton, s int64, w ...int64) int64 {
	for _, a := range w {
		if s >= 0 {
			s = m.Next[s][a]
		}
	}
	return s
}

func refAcceptsFrom(m impl.Automaton, s int64, w []int64) bool {
	end := refAfter(m, s, w...)
	return end >= 0 && isMember(m.Final, int(end))
}

func refAccepts(m impl.Automaton, w []int64) bool { return refAcceptsFrom(m, m.Start, w) }

// acceptedFrom tells for each of some words whether it is accepted from a state; none is from -1.
func acceptedFrom(m impl.Automaton, s int64, list [][]int64) string {
	var b strings.Builder
	for _, w := range list {
		b.WriteByte("01"[oneIf(refAcceptsFrom(m, s, w))])
	}
	return b.String()
}

// refUseful looks at all words with fewer letters than there are states, which lead everywhere.
func refUseful(m impl.Automaton) int64 {
	list := wordsUpTo(int(m.Letters), len(m.Next)-1)
	var useful int64
	for s := range int64(len(m.Next)) {
		isReached := slices.ContainsFunc(list, func(w []int64) bool { return refAfter(m, m.Start, w...) == s })
		if isReached && strings.Contains(acceptedFrom(m, s, list), "1") {
			useful |= 1 << s
		}
	}
	return useful
}

// table is an automaton that may have more states than an automaton of the program.
type table struct {
	letters, start int
	final          []bool
	next           [][]int
}

func tableOf(m impl.Automaton) table {
	t := table{letters: int(m.Letters), start: int(m.Start)}
	for s, row := range m.Next {
		var next []int
		for _, to := range row {
			next = append(next, int(to))
		}
		t.final, t.next = append(t.final, isMember(m.Final, s)), append(t.next, next)
	}
	return t
}

// both returns the table of all pairs of states of two automata, where the state behind the last one
// stands for none, that accepts by what both of them do.
func both(m, k impl.Automaton, accepts func(isFirst, isSecond bool) bool) table {
	size := len(k.Next) + 1
	after := func(m impl.Automaton, s, a int) int {
		if s == len(m.Next) || m.Next[s][a] < 0 {
			return len(m.Next)
		}
		return int(m.Next[s][a])
	}
	t := table{letters: int(m.Letters), start: int(m.Start)*size + int(k.Start)}
	for p := range len(m.Next) + 1 {
		for q := range size {
			var next []int
			for a := range t.letters {
				next = append(next, after(m, p, a)*size+after(k, q, a))
			}
			t.final, t.next = append(t.final, accepts(isMember(m.Final, p), isMember(k.Final, q))), append(t.next, next)
		}
	}
	return t
}

// toldByPairs returns which states some word tells apart, where the state behind the last one stands for
// none. It goes on from pairs to those that a letter leads to them.
func (t table) toldByPairs() [][]bool {
	n := len(t.next)
	told := make([][]bool, n+1)
	for s := range told {
		told[s] = make([]bool, n+1)
		for u := range told[s] {
			told[s][u] = (s < n && t.final[s]) != (u < n && t.final[u])
		}
	}
	after := func(s, a int) int {
		if s == n || t.next[s][a] < 0 {
			return n
		}
		return t.next[s][a]
	}
	for isNew := true; isNew; {
		isNew = false
		for s := range told {
			for u := range s {
				for a := 0; a < t.letters && !told[s][u]; a++ {
					if told[after(s, a)][after(u, a)] {
						told[s][u], told[u][s], isNew = true, true, true
					}
				}
			}
		}
	}
	return told
}

// toldByWords does this for a small automaton by the definition: words with at most as many letters as
// there are states tell all states apart that any words do.
func toldByWords(m impl.Automaton) [][]bool {
	n := int64(len(m.Next))
	list := wordsUpTo(int(m.Letters), int(n))
	texts := []string{}
	for s := range n {
		texts = append(texts, acceptedFrom(m, s, list))
	}
	texts = append(texts, acceptedFrom(m, -1, list))
	var told [][]bool
	for _, text := range texts {
		var row []bool
		for _, other := range texts {
			row = append(row, text != other)
		}
		told = append(told, row)
	}
	return told
}

// useful returns the mask of the useful states, where told is what tells the states apart.
func (t table) useful(told [][]bool) int64 {
	reached := []int{t.start}
	var useful int64
	for i := 0; i < len(reached); i++ {
		for _, to := range t.next[reached[i]] {
			if to >= 0 && !slices.Contains(reached, to) {
				reached = append(reached, to)
			}
		}
		if told[reached[i]][len(t.next)] {
			useful |= 1 << reached[i]
		}
	}
	return useful
}

// minimal returns the minimal automaton, whatever its size, where told is what tells the states apart.
func (t table) minimal(told [][]bool) impl.Automaton {
	n := len(t.next)
	if !told[t.start][n] {
		return automatonWith(int64(t.letters), 0, 0, slices.Repeat([]int64{-1}, t.letters))
	}
	states := []int{t.start}
	m := impl.Automaton{Letters: int64(t.letters)}
	for i := 0; i < len(states); i++ {
		row := []int64{}
		for _, to := range t.next[states[i]] {
			if to < 0 || !told[to][n] {
				row = append(row, -1)
				continue
			}
			number := slices.IndexFunc(states, func(s int) bool { return !told[s][to] })
			if number < 0 {
				number = len(states)
				states = append(states, to)
			}
			row = append(row, int64(number))
		}
		if t.final[states[i]] {
			m.Final |= 1 << i // which is lost where there are too many states
		}
		m.Next = append(m.Next, row)
	}
	return m
}

func refMinimal(m impl.Automaton) impl.Automaton {
	t := tableOf(m)
	return t.minimal(t.toldByPairs())
}

// refCombine returns the minimal automaton of two automata, whatever its size.
func refCombine(m, k impl.Automaton, accepts func(isFirst, isSecond bool) bool) impl.Automaton {
	t := both(m, k, accepts)
	return t.minimal(t.toldByPairs())
}

// The three kinds of combinations, by their numbers, and the words that just one automaton accepts.
func kinds() []func(isFirst, isSecond bool) bool {
	return []func(isFirst, isSecond bool) bool{
		func(isFirst, isSecond bool) bool { return isFirst && isSecond },
		func(isFirst, isSecond bool) bool { return isFirst || isSecond },
		func(isFirst, isSecond bool) bool { return isFirst && !isSecond },
	}
}

func isJustOne(isFirst, isSecond bool) bool { return isFirst != isSecond }

// walk has nodes, to some of which a letter leads from a node.
type walk struct {
	nodes, letters, start int
	isEnd                 func(node int) bool
	steps                 func(node, a int) []int
}

// hasEnd reports whether some word leads to an end.
func (v walk) hasEnd() bool {
	isKnown := make([]bool, v.nodes)
	isKnown[v.start] = true
	for known := []int{v.start}; len(known) > 0; known = known[1:] {
		if v.isEnd(known[0]) {
			return true
		}
		for a := range v.letters {
			for _, to := range v.steps(known[0], a) {
				if !isKnown[to] {
					isKnown[to], known = true, append(known, to)
				}
			}
		}
	}
	return false
}

// first returns the first word that leads to an end, and whether there is one: it finds the nodes from
// which words of 0, 1, 2 .. letters lead there, and then takes the least letter of each of them.
func (v walk) first() ([]int64, bool) {
	if !v.hasEnd() {
		return nil, false
	}
	layer := make([]bool, v.nodes)
	for node := range layer {
		layer[node] = v.isEnd(node)
	}
	layers := [][]bool{layer}
	for ; !layer[v.start]; layers = append(layers, layer) {
		longer := make([]bool, v.nodes)
		for node := range longer {
			for a := 0; a < v.letters && !longer[node]; a++ {
				longer[node] = slices.ContainsFunc(v.steps(node, a), func(to int) bool { return layer[to] })
			}
		}
		layer = longer
	}
	w := []int64{}
	current := []int{v.start}
	for k := len(layers) - 2; k >= 0; k-- {
		for a := range v.letters {
			var next []int
			for _, node := range current {
				for _, to := range v.steps(node, a) {
					if layers[k][to] && !slices.Contains(next, to) {
						next = append(next, to)
					}
				}
			}
			if len(next) > 0 {
				w, current = append(w, int64(a)), next
				break
			}
		}
	}
	return w, true
}

// refDifference returns the first word that just one of two automata accepts, whatever its length.
func refDifference(m, k impl.Automaton) ([]int64, bool) {
	t := both(m, k, isJustOne)
	return walk{len(t.next), t.letters, t.start, func(s int) bool { return t.final[s] }, func(s, a int) []int { return t.next[s][a : a+1] }}.first()
}

// refOpenWord returns the first open word, whatever its length. A node is a state before both neighbours,
// a state and the first one of them, or the states to which both orders lead, none for the second one
// being the number behind the last state.
func refOpenWord(x impl.Alphabet, m impl.Automaton) ([]int64, bool) {
	n, letters := len(m.Next), int(m.Letters)
	pair := func(p, q int64) []int {
		if p < 0 {
			return nil
		}
		if q < 0 {
			q = int64(n)
		}
		return []int{n + n*letters + int(p)*(n+1) + int(q)}
	}
	statesOf := func(node int) (p, q int64) {
		p, q = int64(node-n-n*letters)/int64(n+1), int64(node-n-n*letters)%int64(n+1)
		if q == int64(n) {
			q = -1
		}
		return p, q
	}
	steps := func(node, letter int) []int {
		a := int64(letter)
		if node < n {
			if m.Next[node][a] < 0 {
				return nil
			}
			return []int{int(m.Next[node][a]), n + node*letters + letter}
		}
		if node < n+n*letters {
			s, before := int64(node-n)/int64(letters), int64(node-n)%int64(letters)
			if related(x.Depends, int(before), letter) {
				return nil
			}
			return pair(refAfter(m, s, before, a), refAfter(m, s, a, before))
		}
		p, q := statesOf(node)
		return pair(refAfter(m, p, a), refAfter(m, q, a))
	}
	isEnd := func(node int) bool {
		if node < n+n*letters {
			return false
		}
		p, q := statesOf(node)
		return refAcceptsFrom(m, p, nil) && !refAcceptsFrom(m, q, nil)
	}
	return walk{n + n*letters + n*(n+1), letters, int(m.Start), isEnd, steps}.first()
}

// refOpenPlace returns the first place at which an exchange leads out of the language, or -1.
func refOpenPlace(x impl.Alphabet, m impl.Automaton, w []int64) int64 {
	for i := range max(len(w)-1, 0) {
		v := slices.Clone(w)
		v[i], v[i+1] = w[i+1], w[i]
		if !related(x.Depends, int(w[i]), int(w[i+1])) && !refAccepts(m, v) {
			return int64(i)
		}
	}
	return -1
}

// openAmong returns the first one of some words, in order, that is open, and whether there is one.
func openAmong(x impl.Alphabet, m impl.Automaton, list [][]int64) ([]int64, bool) {
	i := slices.IndexFunc(list, func(w []int64) bool { return refAccepts(m, w) && refOpenPlace(x, m, w) >= 0 })
	if i < 0 {
		return nil, false
	}
	return list[i], true
}

// refDiamondFault returns the first fault, or none.
func refDiamondFault(x impl.Alphabet, m impl.Automaton) []int64 {
	for s := range int64(len(m.Next)) {
		for a := range m.Letters {
			for b := range m.Letters {
				if a < b && !related(x.Depends, int(a), int(b)) && refAfter(m, s, a, b) != refAfter(m, s, b, a) {
					return []int64{s, a, b}
				}
			}
		}
	}
	return nil
}

// refNormalAutomaton returns the minimal automaton of the normal forms, whatever its size. A letter must
// not come behind a beginning if it is independent of all letters from some greater one on.
func refNormalAutomaton(x impl.Alphabet) impl.Automaton {
	t := table{letters: int(x.Letters)}
	barred := []int64{0} // the sets of such letters
	for i := 0; i < len(barred); i++ {
		next := none(t.letters)
		for a := range t.letters {
			if isMember(barred[i], a) {
				continue
			}
			behind := (barred[i] | (1<<a - 1)) &^ x.Depends[a]
			if !slices.Contains(barred, behind) {
				barred = append(barred, behind)
			}
			next[a] = slices.Index(barred, behind)
		}
		t.final, t.next = append(t.final, true), append(t.next, next)
	}
	return t.minimal(t.toldByPairs())
}

// refCountAccepted counts the traces of a closed language with each number of letters up to 20 by their
// Foata forms, of which it follows the words that have the letters of each step in ascending order.
func refCountAccepted(x impl.Alphabet, m impl.Automaton) [21]int64 {
	f := foataOf(x)
	before := make([][]int, len(f.steps)) // the steps that a step can stand behind
	for i, behind := range f.behind {
		for _, k := range behind {
			before[k] = append(before[k], i)
		}
	}
	numbers := [21]int64{int64(oneIf(refAccepts(m, nil)))}
	var current [21][][16]int64 // by the number of letters, the last step and the state
	for n := range current {
		current[n] = make([][16]int64, len(f.steps))
	}
	for n := 1; n <= 20; n++ {
		for k, size := range f.sizes {
			var read [16]int64
			if n == size {
				read[m.Start] = 1
			}
			for _, i := range before[k] {
				for s, number := range current[max(n-size, 0)][i] {
					read[s] += number
				}
			}
			for s, number := range read {
				if number == 0 {
					continue
				}
				to := refAfter(m, int64(s), refMembers(f.steps[k])...)
				if to >= 0 {
					current[n][k][to] += number
					numbers[n] += number * int64(oneIf(isMember(m.Final, int(to))))
				}
			}
		}
	}
	return numbers
}

// everything returns the automaton that accepts all words of some letters.
func everything(letters int64) impl.Automaton {
	return automatonWith(letters, 0, 1, make([]int64, letters))
}

// oneWord returns the automaton that accepts just one word.
func oneWord(letters int64, w []int64) impl.Automaton {
	m := automatonWith(letters, 0, 1<<len(w))
	for i := range len(w) + 1 {
		row := slices.Repeat([]int64{-1}, int(letters))
		if i < len(w) {
			row[w[i]] = int64(i + 1)
		}
		m.Next = append(m.Next, row)
	}
	return m
}

// allAutomata calls a function with automata of some letters and states, each one of so many.
func allAutomata(letters, states, oneOf int, call func(m impl.Automaton)) {
	number := states << states
	for range letters * states {
		number *= states + 1
	}
	for i := 0; i < number; i += oneOf {
		left := i
		digit := func(n int) int64 {
			d := left % n
			left /= n
			return int64(d)
		}
		m := automatonWith(int64(letters), digit(states), digit(1<<states))
		for range states {
			row := []int64{}
			for range letters {
				row = append(row, digit(states+1)-1)
			}
			m.Next = append(m.Next, row)
		}
		call(m)
	}
}

// someAutomaton returns an automaton in which about one of so many letters is not possible, or all are
// for 0.
func someAutomaton(x *numbers, letters int64, states, rare int) impl.Automaton {
	m := automatonWith(letters, int64(x.below(states)), int64(x.below(1<<states)))
	for range states {
		row := []int64{}
		for range letters {
			next := int64(x.below(states))
			if rare > 0 && x.below(rare) == 0 {
				next = -1
			}
			row = append(row, next)
		}
		m.Next = append(m.Next, row)
	}
	return m
}

// someLocal returns an automaton in which the letters of some process change the state and all others
// keep it, so that independent letters commute.
func someLocal(x *numbers, y impl.Alphabet, states int) impl.Automaton {
	m := someAutomaton(x, y.Letters, states, 2+x.below(4))
	if y.Letters == 0 {
		return m
	}
	processes := refProcesses(y)
	process := processes[x.below(len(processes))]
	for s, row := range m.Next {
		for a := range row {
			if !isMember(process, a) {
				row[a] = int64(s)
			}
		}
	}
	return m
}

// someClosed returns the minimal automaton of a closed language, which combines some local ones.
func someClosed(x *numbers, y impl.Alphabet) impl.Automaton {
	m := refMinimal(someLocal(x, y, 1+x.below(6)))
	for range x.below(3) {
		combined := refCombine(m, someLocal(x, y, 1+x.below(4)), kinds()[x.below(3)])
		if len(combined.Next) <= 16 {
			m = combined
		}
	}
	return m
}

// veiled returns an automaton with the same language and more states: some that are copies of others,
// some that nothing leads to, and some that lead nowhere; all of them have other numbers.
func veiled(x *numbers, m impl.Automaton) impl.Automaton {
	n := len(m.Next)
	more := x.below(17 - n)
	copyOf := []int{}
	for s := range n + more {
		if s < n {
			copyOf = append(copyOf, s)
		} else {
			copyOf = append(copyOf, x.below(n+2)) // n leads nowhere, and nothing leads to n + 1
		}
	}
	names := someNames(x, n+more)
	places := make([][]int64, n+2) // the numbers of the copies of each state
	for s, of := range copyOf {
		places[of] = append(places[of], int64(names[s]))
	}
	someOf := func(of int) int64 {
		if len(places[of]) == 0 {
			return -1
		}
		return places[of][x.below(len(places[of]))]
	}
	wide := impl.Automaton{Letters: m.Letters, Start: places[m.Start][0], Next: make([][]int64, n+more)}
	for s, of := range copyOf {
		row := []int64{}
		for a := range m.Letters {
			switch {
			case of > n:
				row = append(row, int64(x.below(n+more)))
			case of == n || m.Next[of][a] < 0:
				row = append(row, someOf(n))
			default:
				row = append(row, someOf(int(m.Next[of][a])))
			}
		}
		wide.Next[names[s]] = row
		if of < n && isMember(m.Final, of) || of > n && x.below(2) == 0 {
			wide.Final |= 1 << names[s]
		}
	}
	return wide
}
