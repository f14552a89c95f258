package quest

import (
	"strconv"
	"strings"

	"canvass/api"
	"canvass/value"
)

// Read returns the form with a text, or the number of the line with which it ceases to be one (F7).
func Read(text string) (f api.Form, line int, fault api.Fault) {
	if len(text) > api.MaxForm {
		return api.Form{}, 0, api.ErrLarge
	}
	r := &reader{}
	r.lines = strings.Split(text, "\n")
	last := len(r.lines) - 1
	isEnded := r.lines[last] == ""
	if isEnded {
		r.lines = r.lines[:last]
	}
	// A line that cannot stand where it stands makes the reader panic, from within whatever it reads.
	defer func() {
		if recover() != nil {
			f, line, fault = api.Form{}, r.at, api.ErrSyntax
		}
	}()
	f = r.form()
	if r.at < len(r.lines) || !isEnded {
		refuse()
	}
	if fault := Check(f); fault != api.OK {
		return api.Form{}, 0, fault
	}
	return f, 0, api.OK
}

// refuse says that the line at hand cannot stand where it stands.
func refuse() { panic("misplaced line") }

// reader reads a form line by line.
type reader struct {
	lines []string
	at    int // the number of the line at hand
}

// word returns the first word of the line at hand, if it is at a depth; otherwise nothing.
func (r *reader) word(depth int) string {
	if r.at == len(r.lines) {
		return ""
	}
	line, isDeep := strings.CutPrefix(r.lines[r.at], strings.Repeat("  ", depth))
	if !isDeep {
		return ""
	}
	word, _, _ := strings.Cut(line, " ")
	return word
}

// line reads a line that begins with a word, if it is at hand at a depth, and reports whether it was.
func (r *reader) line(depth int, word string, read func(c *cursor)) bool {
	if r.word(depth) != word {
		return false
	}
	c := &cursor{rest: r.lines[r.at][2*depth:]}
	c.word()
	read(c)
	if !c.isEnded {
		refuse()
	}
	r.at++
	return true
}

func (r *reader) form() api.Form {
	f := api.Form{}
	hasForm := r.line(0, "form", func(c *cursor) { f.Name, f.Version = c.name(), c.size() })
	hasLanguages := hasForm && r.line(0, "languages", func(c *cursor) {
		for !c.isEnded {
			f.Languages = append(f.Languages, c.name())
		}
	})
	if !hasLanguages {
		refuse()
	}
	list := api.List{}
	for r.line(0, "list", func(c *cursor) { list = api.List{Name: c.name()} }) {
		for r.line(1, "option", func(c *cursor) { list.Options = append(list.Options, c.option()) }) {
		}
		f.Lists = append(f.Lists, list)
	}
	f.Items = r.items(0)
	return f
}

func (r *reader) items(depth int) []api.Item {
	var items []api.Item
	for {
		item := api.Item{Kind: itemKind(r.word(depth))}
		if item.Kind == 0 {
			return items
		}
		r.line(depth, itemWords[item.Kind], func(c *cursor) { c.item(&item) })
		r.within(depth+1, &item)
		items = append(items, item)
	}
}

// itemKind returns the kind of items with a word, or 0.
func itemKind(word string) int {
	for kind, other := range itemWords {
		if other == word {
			return kind
		}
	}
	return 0
}

// within reads the lines within an item, whether an item of its kind can have them or not: that is a matter of Check.
func (r *reader) within(depth int, item *api.Item) {
	item.If = r.expr(depth, "if")
	item.Phrase = r.phrase(depth)
	if item.Kind == api.ItemQuestion {
		item.Answer.Only = r.expr(depth, "only")
		item.Answer.Checks = r.checks(depth)
	}
	item.Items = r.items(depth)
}

func (r *reader) expr(depth int, word string) []api.Expr {
	var l []api.Expr
	r.line(depth, word, func(c *cursor) { l = append(l, c.expr()) })
	return l
}

func (r *reader) phrase(depth int) api.Phrase {
	var phrase api.Phrase
	r.line(depth, "text", func(c *cursor) { phrase = append(api.Phrase{c.text()}, c.texts()...) })
	return phrase
}

func (r *reader) checks(depth int) []api.Rule {
	var checks []api.Rule
	for {
		check := api.Rule{Soft: r.word(depth) == "soft"}
		read := func(c *cursor) { check.Must = c.expr() }
		if !r.line(depth, "check", read) && !r.line(depth, "soft", read) {
			return checks
		}
		check.Phrase = r.phrase(depth + 1)
		checks = append(checks, check)
	}
}

// cursor is what is left of a line, whose words are separated by single blanks.
type cursor struct {
	rest    string
	isEnded bool
}

// word goes on behind the next blank, and returns what is ahead of it: nothing, if the line is ended.
func (c *cursor) word() string {
	word, rest, isMore := strings.Cut(c.rest, " ")
	c.rest, c.isEnded = rest, !isMore
	return word
}

// has goes on if the next word is this one, and reports whether it was.
func (c *cursor) has(word string) bool {
	next, _, _ := strings.Cut(c.rest, " ")
	if c.isEnded || next != word {
		return false
	}
	c.word()
	return true
}

// need goes on, but the next word must be this one.
func (c *cursor) need(word string) {
	if c.word() != word {
		refuse()
	}
}

func (c *cursor) name() string {
	word := c.word()
	if word == "" || strings.Trim(word, "abcdefghijklmnopqrstuvwxyz0123456789_") != "" {
		refuse()
	}
	return word
}

// size reads a whole number from 0 to 999999, without needless zeros.
func (c *cursor) size() int {
	word := c.word()
	n, err := strconv.Atoi(word)
	if err != nil || n < 0 || n > 999999 || strconv.Itoa(n) != word {
		refuse()
	}
	return n
}

// value reads the N of a value of a kind.
func (c *cursor) value(kind int) int {
	v, fault := value.Read(c.word())
	if fault != api.OK || v.Kind != kind {
		refuse()
	}
	return v.N
}

// expr reads an expression, which is the rest of the line.
func (c *cursor) expr() api.Expr {
	if c.isEnded {
		refuse()
	}
	e, _, fault := value.Parse(c.rest)
	if fault != api.OK || printed(e) != c.rest {
		refuse()
	}
	c.rest, c.isEnded = "", true
	return e
}

// texts reads the texts of a phrase, which are the rest of the line.
func (c *cursor) texts() api.Phrase {
	var phrase api.Phrase
	for !c.isEnded {
		phrase = append(phrase, c.text())
	}
	return phrase
}

// text reads a text in double quotes.
func (c *cursor) text() string {
	if !strings.HasPrefix(c.rest, `"`) {
		refuse()
	}
	var text []byte
	i := 1
	for i < len(c.rest) && c.rest[i] != '"' {
		if c.rest[i] == '\\' {
			i++
			if i == len(c.rest) || c.rest[i] != '"' && c.rest[i] != '\\' {
				refuse()
			}
		}
		text = append(text, c.rest[i])
		i++
	}
	if i == len(c.rest) || !isPrintable(string(text)) {
		refuse()
	}
	c.rest = c.rest[i+1:]
	if c.word() != "" {
		refuse()
	}
	return string(text)
}

func (c *cursor) option() api.Option {
	o := api.Option{Code: c.size()}
	o.Alone = c.has("alone")
	o.Last = c.has("last")
	o.Phrase = c.texts()
	return o
}

// item reads the name of an item, and what stands behind it.
func (c *cursor) item(item *api.Item) {
	item.Name = c.name()
	switch item.Kind {
	case api.ItemBlock:
		item.Shuffle = c.has("shuffle")
	case api.ItemLoop:
		if c.has("count") {
			item.Count = []api.Expr{c.expr()}
			return
		}
		c.need("over")
		item.Over = c.name()
	case api.ItemQuestion:
		item.Answer = c.answer()
	case api.ItemCompute:
		c.need("=")
		item.Compute = []api.Expr{c.expr()}
	}
}

func (c *cursor) answer() api.Answer {
	a := api.Answer{Kind: answerKind(c.word())}
	switch a.Kind {
	case api.Number, api.Day:
		a.Low = c.value(a.Kind)
		a.High = c.value(a.Kind)
	case api.Text:
		a.Low, a.High = c.sizes()
	case api.Choice:
		a.List = c.name()
	case api.Choices:
		a.List = c.name()
		a.Low, a.High = c.sizes()
	default:
		refuse()
	}
	if a.Kind == api.Number && c.has("places") {
		a.Places = c.size()
		if a.Places == 0 {
			refuse()
		}
	}
	a.Shuffle = c.has("shuffle")
	a.Need = c.has("need")
	if c.has("reasons") {
		a.Reasons = c.reasons()
	}
	return a
}

// answerKind returns the kind of answers with a word, or 0.
func answerKind(word string) int {
	for kind, other := range answerWords {
		if other == word {
			return kind
		}
	}
	return 0
}

func (c *cursor) sizes() (int, int) {
	low := c.size()
	return low, c.size()
}

// reasons reads one reason or more, which are the rest of the line.
func (c *cursor) reasons() []int {
	reasons := []int{c.value(api.Special)}
	for !c.isEnded {
		reasons = append(reasons, c.value(api.Special))
	}
	return reasons
}
