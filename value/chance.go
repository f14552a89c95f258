package value

import "canvass/api"

// Stream returns the first n numbers of the stream of a seed (V6).
func Stream(seed string, n int) ([]uint64, api.Fault) {
	if n < 0 || n > api.MaxDraws {
		return nil, api.ErrRange
	}
	next := stream(seed)
	out := make([]uint64, n)
	for i := range out {
		out[i] = next()
	}
	return out, api.OK
}

// stream returns a function that tells the numbers of the stream one after the other.
func stream(seed string) func() uint64 {
	state := uint64(14695981039346656037)
	for i := range len(seed) {
		state = (state ^ uint64(seed[i])) * 1099511628211
	}
	return func() uint64 {
		state += 11400714819323198485
		z := state
		z = (z ^ z>>30) * 13787848793156543929
		z = (z ^ z>>27) * 10723151780598845931
		return z ^ z>>31
	}
}

// Shuffle returns an order of 0 .. n - 1 (V6).
func Shuffle(seed string, n int) ([]int, api.Fault) {
	if n < 0 || n > api.MaxDraws {
		return nil, api.ErrRange
	}
	out := make([]int, n)
	for i := range out {
		out[i] = i
	}
	next := stream(seed)
	for i := n - 1; i > 0; i-- {
		j := next() % uint64(i+1)
		out[i], out[j] = out[j], out[i]
	}
	return out, api.OK
}
