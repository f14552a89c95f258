package code

import (
	"slices"
	"strings"

	"canvass/api"
)

// frame has the nodes of a sound frame by their codes. 0 is above all of level 1.
type frame struct {
	parents []int
	levels  []int // 0: there is no such code
}

// frameOf returns a frame, or the error of CheckFrame.
func frameOf(l []api.Node) (frame, api.Fault) {
	if fault := checkNodes(l); fault != api.OK {
		return frame{}, fault
	}
	f := frame{parents: make([]int, api.MaxCode+1), levels: make([]int, api.MaxCode+1)}
	for _, n := range l {
		f.parents[n.Code] = n.Parent
	}
	for _, n := range l {
		f.levels[n.Code] = f.climb(n.Code, len(l)+1)
	}
	switch highest := slices.Max(f.levels); {
	// Who climbs past more nodes than there are is in a circle, or comes into one of others.
	case highest > len(l):
		return frame{}, api.ErrLoop
	case highest > api.MaxLevel:
		return frame{}, api.ErrLarge
	}
	return f, api.OK
}

// climb counts the nodes from a code up to level 1, at most so many.
func (f frame) climb(code, most int) int {
	count := 0
	for code != 0 && count < most {
		code = f.parents[code]
		count++
	}
	return count
}

// checkNodes has the errors of CheckFrame that do not look at how nodes depend on one another beyond the next one above.
func checkNodes(l []api.Node) api.Fault {
	switch {
	case len(l) == 0:
		return api.ErrNone
	case len(l) > api.MaxNodes:
		return api.ErrLarge
	}
	known := map[int]bool{0: true}
	for i, n := range l {
		switch {
		case n.Code < 1 || n.Code > api.MaxCode:
			return api.ErrRange
		case i > 0 && n.Code <= l[i-1].Code:
			return api.ErrOrder
		case len(n.Title) > api.MaxTitle:
			return api.ErrLarge
		case !isTitle(n.Title):
			return api.ErrForm
		}
		known[n.Code] = true
	}
	if slices.ContainsFunc(l, func(n api.Node) bool { return !known[n.Parent] }) {
		return api.ErrName
	}
	return api.OK
}

// isTitle reports whether a text is a title, of any length.
func isTitle(text string) bool {
	for i := range len(text) {
		if text[i] < 32 || text[i] > 126 {
			return false
		}
	}
	return text != "" && strings.Trim(text, " ") == text
}

// frameWith returns a frame that has some codes, or the error of a function that has them.
func frameWith(l []api.Node, codes ...int) (frame, api.Fault) {
	f, fault := frameOf(l)
	if fault != api.OK {
		return frame{}, fault
	}
	for _, code := range codes {
		if !f.has(code) {
			return frame{}, api.ErrName
		}
	}
	return f, api.OK
}

func (f frame) has(code int) bool {
	return code >= 1 && code <= api.MaxCode && f.levels[code] > 0
}

// path returns a code and those above it, the nearest one first.
func (f frame) path(code int) []int {
	var out []int
	for ; code != 0; code = f.parents[code] {
		out = append(out, code)
	}
	return out
}

// meeting returns where the ways up from a and b meet, and how many steps both have made by then.
func (f frame) meeting(a, b int) (int, int) {
	steps := 0
	for ; a != b; steps++ {
		if f.levels[a] < f.levels[b] {
			a, b = b, a
		}
		a = f.parents[a]
	}
	return a, steps
}

// lifted returns a code of at most a level that is, or is above, a code.
func (f frame) lifted(code, level int) int {
	for f.levels[code] > level {
		code = f.parents[code]
	}
	return code
}
