package impl

// ArePlaces reports whether places are valid for n processes, with n in 1..MaxParties.
func ArePlaces(n int64, places []int64) bool { return false }

// ViewOf returns the mask of the positions in the view of p, and ErrNone.
func ViewOf(n int64, places []int64, w []int64, p int64) (int64, int64) { return 0, 0 }

// KnownCounts returns, for each process p, the list of the counts of all processes for p, and
// ErrNone.
func KnownCounts(n int64, places []int64, w []int64) ([][]int64, int64) { return nil, 0 }

// StampsOf returns the stamps of all positions, and ErrNone.
func StampsOf(n int64, places []int64, w []int64) ([][]int64, int64) { return nil, 0 }

// PastByStamps returns the mask of all positions whose stamp is for no process greater than that
// of i, and ErrNone.
func PastByStamps(n int64, places []int64, w []int64, i int64) (int64, int64) { return 0, 0 }

// LatestKnown returns, for each process q, the latest event of q for p, or -1 if there is none,
// and ErrNone.
func LatestKnown(n int64, places []int64, w []int64, p int64) ([]int64, int64) { return nil, 0 }

// SecondHand returns, for each process q, the list of the second-hand events of q and each
// process r for p, -1 where there is none, and ErrNone.
func SecondHand(n int64, places []int64, w []int64, p int64) ([][]int64, int64) { return nil, 0 }

// LabelsOf returns the labels of all positions, and ErrNone.
func LabelsOf(n int64, places []int64, w []int64) ([]int64, int64) { return nil, 0 }

// NewerOf returns 1 if p has newer news of r than q, 2 if q has newer news of r than p, and 0 if
// neither has, and ErrNone.
func NewerOf(n int64, places []int64, w []int64, p int64, q int64, r int64) (int64, int64) {
	return 0, 0
}

// NewerByLabels compares what p and q know of r by marks alone, and returns ErrNone. It returns
// 0 if both know no event of r, or both know one and the marks of these latest events are equal;
// 1 or 2 if p or q alone knows one; and otherwise 2 if there are processes s and t so that the
// mark of the latest event of s for p is that of the latest event of t for q, and the latest
// event of r for p is in the past of that of s for p; and 1 if not.
func NewerByLabels(n int64, places []int64, w []int64, p int64, q int64, r int64) (int64, int64) {
	return 0, 0
}
