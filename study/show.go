package study

import (
	"strconv"
	"strings"

	"canvass/api"
	"canvass/value"
)

// maxPlaces is the greatest number of digits behind the full stop for Show.
const maxPlaces = 6

// tableText returns the text of a table with its numbers, or ErrLarge (T6).
func tableText(t api.Table, c api.Counted, places int) (string, api.Fault) {
	s := sheetWriter{places: places}
	s.line("", len(t.Columns), func(i int) string { return t.Columns[i].Title })
	s.line("cases", len(c.Totals), func(i int) string { return strconv.Itoa(c.Totals[i].Cases) })
	s.line("weighted", len(c.Totals), func(i int) string { return s.number(c.Totals[i].Sum) })
	for n, row := range c.Cells {
		s.line(t.Rows[n].Title, len(row), func(i int) string { return s.percent(row[i]) })
	}
	if len(t.Of) > 0 {
		s.line("mean", len(c.Totals), func(i int) string { return s.number(c.Totals[i].Mean) })
	}
	if s.fault != api.OK {
		return "", s.fault
	}
	return s.text.String(), api.OK
}

// sheetWriter writes the lines of a table, and remembers an error that one of its numbers has.
type sheetWriter struct {
	text   strings.Builder
	places int
	fault  api.Fault
}

// line writes a line with a first part and as many others as are told.
func (s *sheetWriter) line(first string, parts int, tell func(i int) string) {
	s.text.WriteString(first)
	for i := range parts {
		s.text.WriteString("\t" + tell(i))
	}
	s.text.WriteString("\n")
}

func (s *sheetWriter) number(r api.Ratio) string {
	text, fault := value.Decimal(r, s.places)
	s.note(fault)
	return text
}

// percent returns what stands for a cell of a row.
func (s *sheetWriter) percent(c api.TableCell) string {
	r, fault := value.Product(c.Part, api.Ratio{Num: "100", Den: "1"})
	s.note(fault)
	text := s.number(r)
	for _, i := range c.Above {
		text += "+" + strconv.Itoa(i+1)
	}
	return text
}

// note remembers the first error.
func (s *sheetWriter) note(fault api.Fault) {
	if s.fault == api.OK {
		s.fault = fault
	}
}
