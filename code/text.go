package code

import (
	"cmp"
	"slices"
	"strconv"
	"strings"

	"canvass/api"
)

// Text returns the text of a frame (C2).
func Text(l []api.Node) (string, api.Fault) {
	if fault := CheckFrame(l); fault != api.OK {
		return "", fault
	}
	below := map[int][]api.Node{}
	for _, n := range l {
		below[n.Parent] = append(below[n.Parent], n)
	}
	var out strings.Builder
	var write func(parent int, blanks string)
	write = func(parent int, blanks string) {
		for _, n := range below[parent] {
			out.WriteString(blanks + strconv.Itoa(n.Code) + " " + n.Title + "\n")
			write(n.Code, blanks+"  ")
		}
	}
	write(0, "")
	if out.Len() > api.MaxFrameText {
		return "", api.ErrLarge
	}
	return out.String(), api.OK
}

// Read returns the frame of a text (C2).
func Read(text string) ([]api.Node, int, api.Fault) {
	if len(text) > api.MaxFrameText {
		return nil, 0, api.ErrLarge
	}
	lines, bad := scan(text)
	if bad > 0 {
		return nil, bad, api.ErrSyntax
	}
	if again := repeated(lines); again > 0 {
		return nil, again, api.ErrTwice
	}
	nodes := nodesOf(lines)
	if fault := CheckFrame(nodes); fault != api.OK {
		return nil, 0, fault
	}
	return nodes, 0, api.OK
}

// line is a line of a text that has a node.
type line struct {
	number int // from 1 on
	level  int
	code   int
	title  string
}

// scan returns the lines of a text that are not empty, or the number of the first one that does not have the form of one; otherwise 0.
func scan(text string) ([]line, int) {
	var out []line
	number, level := 0, 0
	for words := range strings.SplitSeq(text, "\n") {
		number++
		if words == "" {
			continue
		}
		l, isLine := lineOf(words)
		if !isLine || l.level > level+1 {
			return nil, number
		}
		l.number, level = number, l.level
		out = append(out, l)
	}
	return out, 0
}

// lineOf reads a line, but for its number.
func lineOf(text string) (line, bool) {
	words := strings.TrimLeft(text, " ")
	blanks := len(text) - len(words)
	digits, title, isCut := strings.Cut(words, " ")
	code, isCode := codeOf(digits)
	return line{level: blanks/2 + 1, code: code, title: title}, blanks%2 == 0 && isCut && isCode && isTitle(title)
}

// codeOf returns the code that 1 to 3 digits mean, the first of which is not 0.
func codeOf(digits string) (int, bool) {
	n, err := strconv.Atoi(digits)
	return n, err == nil && n >= 1 && len(digits) <= 3 && strconv.Itoa(n) == digits
}

// repeated returns the number of the first line whose code stands before; 0 if there is none.
func repeated(lines []line) int {
	known := map[int]bool{}
	for _, l := range lines {
		if known[l.code] {
			return l.number
		}
		known[l.code] = true
	}
	return 0
}

// nodesOf returns the nodes of lines, in the order of their codes.
func nodesOf(lines []line) []api.Node {
	var out []api.Node
	path := []int{0}
	for _, l := range lines {
		path = path[:l.level]
		out = append(out, api.Node{Code: l.code, Parent: path[l.level-1], Title: l.title})
		path = append(path, l.code)
	}
	slices.SortFunc(out, func(a, b api.Node) int { return cmp.Compare(a.Code, b.Code) })
	return out
}
