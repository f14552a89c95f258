package sample

import "canvass/api"

// Hits returns how often each one of some sizes is hit if they are drawn systematically (S3).
func Hits(sizes []int, take, start int) ([]int, api.Fault) {
	if len(sizes) > api.MaxUnits {
		return nil, api.ErrLarge
	}
	for _, size := range sizes {
		if size < 1 || size > api.MaxUnits*api.MaxSize {
			return nil, api.ErrRange
		}
	}
	if take < 0 || take > api.MaxUnits || start < 0 || start >= sumOf(sizes) {
		return nil, api.ErrRange
	}
	return hitsOf(sizes, take, start), api.OK
}

func hitsOf(sizes []int, take, start int) []int {
	out := make([]int, len(sizes))
	sum, ahead, known := sumOf(sizes), 0, 0
	for i, size := range sizes {
		ahead += size
		// All products are at most MaxUnits * MaxUnits * MaxUnits * MaxSize, which is less than 2^63.
		before := hitsBefore(take*ahead, start, sum)
		out[i] = before - known
		known = before
	}
	return out
}

// hitsBefore counts those of the numbers start, start + step, start + 2 step, .. that are before an end.
func hitsBefore(end, start, step int) int {
	if end <= start {
		return 0
	}
	return (end-start-1)/step + 1
}

// stretch is starts of a systematic draw: those from from on, before to.
type stretch struct{ from, to int }

// stretchesOf returns the starts from which the element i is hit; it is hit at most once, so each number of its stretch is there by another start.
func stretchesOf(sizes []int, take, i int) []stretch {
	sum := sumOf(sizes)
	from := take * sumOf(sizes[:i]) % sum
	to := from + take*sizes[i]
	if to <= sum {
		return []stretch{{from, to}}
	}
	return []stretch{{from, sum}, {0, to - sum}}
}

// startsOfBoth counts the starts from which the elements i and j are both hit.
func startsOfBoth(sizes []int, take, i, j int) int {
	n := 0
	for _, a := range stretchesOf(sizes, take, i) {
		for _, b := range stretchesOf(sizes, take, j) {
			n += max(0, min(a.to, b.to)-max(a.from, b.from))
		}
	}
	return n
}
