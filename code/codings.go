package code

import "canvass/api"

// frameFor returns a frame, or the error of CheckCodings for codings with its codes.
func frameFor(l []api.Node, codings []api.Coding) (frame, api.Fault) {
	f, fault := frameOf(l)
	if fault != api.OK {
		return frame{}, fault
	}
	if fault := f.checkCodings(codings); fault != api.OK {
		return frame{}, fault
	}
	return f, api.OK
}

// checkCodings has the errors of codings behind those of the frame (C6).
func (f frame) checkCodings(codings []api.Coding) api.Fault {
	if len(codings) > api.MaxCodings {
		return api.ErrLarge
	}
	var last api.Coding
	for _, c := range codings {
		switch {
		case c.Case < 1 || !isCoder(c.Coder):
			return api.ErrRange
		case !f.has(c.Code):
			return api.ErrName
		case c.Case < last.Case || c.Case == last.Case && c.Coder < last.Coder:
			return api.ErrOrder
		case c.Case == last.Case && c.Coder == last.Coder:
			return api.ErrTwice
		}
		last = c
	}
	return api.OK
}

func isCoder(number int) bool { return number >= 1 && number <= api.MaxCoders }

// casesOf divides codings into those of each case.
func casesOf(codings []api.Coding) [][]api.Coding {
	var out [][]api.Coding
	first := 0
	for i, c := range codings {
		if i+1 == len(codings) || codings[i+1].Case != c.Case {
			out = append(out, codings[first:i+1])
			first = i + 1
		}
	}
	return out
}

// final returns the code that the codings of a case come to, and the way (C6).
func (f frame) final(codings []api.Coding) (int, int) {
	votes, within := map[int]int{}, map[int]int{}
	for _, c := range codings {
		votes[c.Code]++
		for _, code := range f.path(c.Code) {
			within[code]++
		}
	}
	first := codings[0].Code
	if votes[first] == len(codings) {
		return first, api.FinalAll
	}
	if code := f.majority(votes, len(codings)); code > 0 {
		return code, api.FinalMost
	}
	if code := f.majority(within, len(codings)); code > 0 {
		return code, api.FinalAbove
	}
	return 0, api.FinalOpen
}

// majority returns the lowest code that is counted for more than half of all; 0 if there is none. No two such codes have the same level, as one coding would be within both.
func (f frame) majority(counts map[int]int, all int) int {
	lowest := 0
	for code, n := range counts {
		if 2*n > all && f.levels[code] > f.levels[lowest] {
			lowest = code
		}
	}
	return lowest
}

// checkMoves has the errors of moves from one frame to another (C9).
func checkMoves(from, to frame, moves []api.Move) api.Fault {
	for i, m := range moves {
		if !from.has(m.From) || m.To != 0 && !to.has(m.To) {
			return api.ErrName
		}
		if i > 0 && m.From <= moves[i-1].From {
			return api.ErrOrder
		}
	}
	return api.OK
}

// successors returns what codes of an old frame become in a new one; those that must be coded anew are not there, or become 0.
func successors(old, next []api.Node, moves []api.Move) map[int]int {
	titles := map[int]string{}
	for _, n := range next {
		titles[n.Code] = n.Title
	}
	out := map[int]int{}
	for _, n := range old {
		if titles[n.Code] == n.Title {
			out[n.Code] = n.Code
		}
	}
	for _, m := range moves {
		out[m.From] = m.To
	}
	return out
}

// recoded returns codings with the successors of their codes, and those that have none.
func recoded(codings []api.Coding, successors map[int]int) (carried, left []api.Coding) {
	for _, c := range codings {
		if code := successors[c.Code]; code != 0 {
			c.Code = code
			carried = append(carried, c)
		} else {
			left = append(left, c)
		}
	}
	return carried, left
}
