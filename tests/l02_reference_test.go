package tests

import (
	"fmt"
	"slices"

	"loop.example/g01094/impl"
)

// The functions of this file follow the definitions of chapter 2 word by word, by looking at all
// letters, all sets and all bijections, so that they can be held against the program.

// alphabetWith returns the alphabet, or what shall not be one, with a list as its dependence.
func alphabetWith(depends ...int64) impl.Alphabet {
	return impl.Alphabet{Letters: int64(len(depends)), Depends: depends}
}

func areEqual(x, y impl.Alphabet) bool {
	return x.Letters == y.Letters && slices.Equal(x.Depends, y.Depends)
}

func refIsAlphabet(x impl.Alphabet) bool {
	if x.Letters < 0 || x.Letters > 8 || int64(len(x.Depends)) != x.Letters {
		return false
	}
	for i, mask := range x.Depends {
		if mask < 0 || mask >= 1<<len(x.Depends) || !related(x.Depends, i, i) {
			return false
		}
		for k := range x.Depends {
			if related(x.Depends, i, k) != related(x.Depends, k, i) {
				return false
			}
		}
	}
	return true
}

func refText(x impl.Alphabet) string {
	text := fmt.Sprintf("%d:", x.Letters)
	for i := range x.Depends {
		for k := i + 1; k < len(x.Depends); k++ {
			if related(x.Depends, i, k) {
				text += " " + "abcdefgh"[i:i+1] + "abcdefgh"[k:k+1]
			}
		}
	}
	return text
}

// alphabetWhere returns the alphabet with n letters in which different letters i < k depend on each
// other exactly if this holds.
func alphabetWhere(n int, holds func(i, k int) bool) impl.Alphabet {
	depends := antichain(n)
	for i := range n {
		for k := i + 1; k < n; k++ {
			if holds(i, k) {
				depends[i] |= 1 << k
				depends[k] |= 1 << i
			}
		}
	}
	return alphabetWith(depends...)
}

func refAlphabetOfProcesses(n int, processes []int64) impl.Alphabet {
	return alphabetWhere(n, func(i, k int) bool {
		return slices.ContainsFunc(processes, func(p int64) bool { return isMember(p, i) && isMember(p, k) })
	})
}

func refDomains(n int, processes []int64) []int64 {
	domains := make([]int64, n)
	for a := range domains {
		for i, p := range processes {
			if isMember(p, a) {
				domains[a] |= 1 << i
			}
		}
	}
	return domains
}

func refProcesses(x impl.Alphabet) []int64 {
	return slices.DeleteFunc(refMaximal(x.Depends), func(s int64) bool { return s == 0 })
}

func refSteps(x impl.Alphabet) []int64 {
	return setsWhere(x.Depends, func(r []int64, s int64) bool {
		for i := range r {
			for k := range r {
				if i != k && isMember(s, i) && isMember(s, k) && related(r, i, k) {
					return false
				}
			}
		}
		return true
	})
}

func refComplement(x impl.Alphabet) impl.Alphabet {
	return alphabetWhere(len(x.Depends), func(i, k int) bool { return !related(x.Depends, i, k) })
}

func refPart(x impl.Alphabet, mask int64) impl.Alphabet {
	var letters []int
	for i := range x.Depends {
		if isMember(mask, i) {
			letters = append(letters, i)
		}
	}
	return alphabetWhere(len(letters), func(i, k int) bool { return related(x.Depends, letters[i], letters[k]) })
}

// refProduct returns the product in which letters of both alphabets depend on each other or not.
func refProduct(x, y impl.Alphabet, across bool) impl.Alphabet {
	n := len(x.Depends)
	return alphabetWhere(n+len(y.Depends), func(i, k int) bool {
		switch {
		case k < n:
			return related(x.Depends, i, k)
		case i >= n:
			return related(y.Depends, i-n, k-n)
		default:
			return across
		}
	})
}

func refHasTransitiveExchange(x impl.Alphabet) bool {
	for a := range x.Depends {
		for b := range x.Depends {
			for c := range x.Depends {
				areDifferent := a != b && b != c && a != c
				if areDifferent && !related(x.Depends, a, b) && !related(x.Depends, b, c) && related(x.Depends, a, c) {
					return false
				}
			}
		}
	}
	return true
}

// bijections returns all orders of the numbers 0..n - 1.
func bijections(n int) [][]int {
	if n == 0 {
		return [][]int{{}}
	}
	var all [][]int
	for _, names := range bijections(n - 1) {
		for at := range n {
			all = append(all, slices.Insert(slices.Clone(names), at, n-1))
		}
	}
	return all
}

// refLeast returns the least list among those that the bijections make of the dependence.
func refLeast(x impl.Alphabet, bijections [][]int) impl.Alphabet {
	least := x.Depends
	for _, names := range bijections {
		if q := renamed(x.Depends, names); slices.Compare(q, least) < 0 {
			least = q
		}
	}
	return alphabetWith(least...)
}

// allAlphabetsOf returns all alphabets with n letters, the isomorphic ones too.
func allAlphabetsOf(n int) []impl.Alphabet {
	var list []impl.Alphabet
	for pairs := range 1 << (n * (n - 1) / 2) {
		left := pairs
		list = append(list, alphabetWhere(n, func(i, k int) bool {
			holds := left&1 == 1
			left >>= 1
			return holds
		}))
	}
	return list
}

// someAlphabet returns an alphabet in which about one of so many pairs depend on each other.
func someAlphabet(x *numbers, n, rare int) impl.Alphabet {
	return alphabetWhere(n, func(i, k int) bool { return x.below(rare) == 0 })
}

// groups returns the alphabet of groups of letters with the given sizes, in which the letters of
// one group depend on each other, or those of different groups do.
func groups(inside bool, sizes ...int) impl.Alphabet {
	var group []int
	for g, size := range sizes {
		for range size {
			group = append(group, g)
		}
	}
	return alphabetWhere(len(group), func(i, k int) bool { return (group[i] == group[k]) == inside })
}

// evenAlphabets returns alphabets with 8 letters that have many symmetries.
func evenAlphabets() []impl.Alphabet {
	return []impl.Alphabet{
		groups(true, 8), groups(false, 8), groups(true, 4, 4), groups(false, 4, 4), groups(true, 2, 2, 2, 2),
		groups(false, 2, 2, 2, 2), groups(true, 3, 3, 2), groups(false, 3, 3, 2), groups(true, 1, 7), groups(false, 1, 7),
		alphabetWhere(8, func(i, k int) bool { return k-i == 1 || k-i == 7 }),
		alphabetWhere(8, func(i, k int) bool { return k-i == 1 }),
		alphabetWhere(8, func(i, k int) bool { return i^k == 1 || i^k == 2 || i^k == 4 }),
		alphabetWhere(8, func(i, k int) bool { return k-i == 4 || k-i == 1 || k-i == 7 }),
		alphabetWhere(8, func(i, k int) bool { return i/4 == k/4 && (k-i)%2 == 1 }),
	}
}
