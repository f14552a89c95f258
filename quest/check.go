package quest

import (
	"slices"

	"canvass/api"
	"canvass/value"
)

// OptionName is the cell that the condition of options sees. No item has this name.
const OptionName = "option"

// The parts of F3, in its order, follow.

func (p *plan) checkHead() api.Fault {
	f := p.form
	if !value.IsName(f.Name) {
		return api.ErrName
	}
	if f.Version < 1 || f.Version > 9999 {
		return api.ErrRange
	}
	if len(f.Languages) == 0 || len(f.Languages) > api.MaxLanguages {
		return api.ErrLarge
	}
	for i, language := range f.Languages {
		if !value.IsName(language) {
			return api.ErrName
		}
		if slices.Contains(f.Languages[:i], language) {
			return api.ErrTwice
		}
	}
	return api.OK
}

func (p *plan) checkLists() api.Fault {
	if len(p.form.Lists) > api.MaxLists {
		return api.ErrLarge
	}
	for _, list := range p.form.Lists {
		if !value.IsName(list.Name) {
			return api.ErrName
		}
		if _, twice := p.lists[list.Name]; twice {
			return api.ErrTwice
		}
		if len(list.Options) == 0 || len(list.Options) > api.MaxOptions {
			return api.ErrLarge
		}
		if fault := p.checkOptions(list.Options); fault != api.OK {
			return fault
		}
		p.lists[list.Name] = list
	}
	return api.OK
}

func (p *plan) checkOptions(options []api.Option) api.Fault {
	known := map[int]bool{}
	for _, option := range options {
		if option.Code < 1 || option.Code > api.MaxCode {
			return api.ErrRange
		}
		if known[option.Code] {
			return api.ErrTwice
		}
		known[option.Code] = true
		fault := p.checkPhrase(option.Phrase, func(api.Expr) api.Fault { return api.ErrSyntax })
		if fault != api.OK {
			return fault
		}
	}
	return api.OK
}

func (p *plan) checkSize() api.Fault {
	left := api.MaxItems
	if !hasRoom(p.form.Items, 1, 0, &left) {
		return api.ErrLarge
	}
	return api.OK
}

// hasRoom stops as soon as a limit is exceeded, however large the tree is. left is how many items are still permitted.
func hasRoom(items []api.Item, level, loops int, left *int) bool {
	for _, item := range items {
		*left--
		if *left < 0 || level > api.MaxTree || loops > api.MaxLoops {
			return false
		}
		inner := loops
		if item.Kind == api.ItemLoop {
			inner++
		}
		if !hasRoom(item.Items, level+1, inner, left) {
			return false
		}
	}
	return true
}

func (p *plan) checkItems() api.Fault {
	p.enter(p.form.Items, nil)
	for _, x := range p.entries {
		if fault := p.checkItem(x); fault != api.OK {
			return fault
		}
		p.named[x.item.Name] = x
	}
	return api.OK
}

func (p *plan) checkItem(x *entry) api.Fault {
	item := x.item
	if item.Kind < api.ItemPage || item.Kind > api.ItemEnd {
		return api.ErrKind
	}
	if !value.IsName(item.Name) || item.Name == OptionName {
		return api.ErrName
	}
	if p.named[item.Name] != nil {
		return api.ErrTwice
	}
	if !hasForm(item) {
		return api.ErrForm
	}
	switch item.Kind {
	case api.ItemPage, api.ItemEnd:
		if x.onPage {
			return api.ErrOrder
		}
	case api.ItemQuestion:
		if !x.onPage {
			return api.ErrOrder
		}
		return p.checkAnswer(item.Answer)
	}
	return api.OK
}

// hasForm reports whether an item uses just the fields that its kind has.
func hasForm(item api.Item) bool {
	phrase, items, compute := false, false, 0
	switch item.Kind {
	case api.ItemPage:
		phrase, items = true, true
	case api.ItemBlock, api.ItemLoop:
		items = true
	case api.ItemQuestion, api.ItemEnd:
		phrase = true
	case api.ItemCompute:
		compute = 1
	}
	isLoop := item.Kind == api.ItemLoop
	return len(item.If) <= 1 && len(item.Count) <= 1 && len(item.Compute) == compute &&
		(phrase || len(item.Phrase) == 0) && (items || len(item.Items) == 0) &&
		(item.Kind == api.ItemBlock || !item.Shuffle) &&
		(len(item.Count) == 1) == (isLoop && item.Over == "") && (isLoop || item.Over == "") &&
		(item.Kind == api.ItemQuestion || sameAnswer(item.Answer, api.Answer{}))
}

// checkAnswer has the errors of F4.
func (p *plan) checkAnswer(a api.Answer) api.Fault {
	if a.Kind < api.Number || a.Kind > api.Day {
		return api.ErrKind
	}
	coded := isCoded(a.Kind)
	if a.Places != 0 && a.Kind != api.Number || a.List != "" && !coded || (len(a.Only) > 0 || a.Shuffle) && !coded || (a.Low != 0 || a.High != 0) && a.Kind == api.Choice || len(a.Only) > 1 {
		return api.ErrForm
	}
	least, most := boundsOf(a.Kind)
	if a.Low > a.High || a.Low < least || a.High > most || a.Places < 0 || a.Places > 4 {
		return api.ErrRange
	}
	if _, known := p.lists[a.List]; coded && !known {
		return api.ErrName
	}
	for i, reason := range a.Reasons {
		if i > 0 && reason <= a.Reasons[i-1] {
			return api.ErrOrder
		}
		if reason < api.DontKnow || reason > api.NoAnswer {
			return api.ErrRange
		}
	}
	if len(a.Checks) > api.MaxChecks {
		return api.ErrLarge
	}
	return api.OK
}

// boundsOf returns from where to where Low and High of answers of a kind can be.
func boundsOf(kind int) (int, int) {
	switch kind {
	case api.Number:
		return -api.MaxNumber, api.MaxNumber
	case api.Day:
		return api.MinDay, api.MaxDay
	case api.Text:
		return 0, api.MaxText
	}
	return 0, api.MaxSet
}

// checkUses checks all that names cells and loops. These are known then, but for the kinds of computed values, which come to be known in order.
func (p *plan) checkUses() api.Fault {
	var cells []api.Cell
	for _, x := range p.entries {
		if x.item.Kind == api.ItemQuestion {
			x.kind = x.item.Answer.Kind
			cells = append(cells, api.Cell{Name: x.item.Name, Kind: x.kind, Loops: x.loops})
		}
	}
	sight, fault := value.SightOf(append(cells, api.Cell{Name: OptionName, Kind: api.Choice}), p.nests())
	if fault != api.OK {
		return fault
	}
	p.sight = sight
	for _, x := range p.entries {
		if fault := p.checkUsesOf(x); fault != api.OK {
			return fault
		}
	}
	return api.OK
}

func (p *plan) checkUsesOf(x *entry) api.Fault {
	for _, condition := range x.item.If {
		if fault := p.checkKind(condition, api.Bool, x, ""); fault != api.OK {
			return fault
		}
	}
	if fault := p.checkPhraseAt(x.item.Phrase, x); fault != api.OK {
		return fault
	}
	switch x.item.Kind {
	case api.ItemLoop:
		return p.checkLoop(x)
	case api.ItemQuestion:
		return p.checkQuestion(x)
	case api.ItemCompute:
		kind, fault := p.fits(x.item.Compute[0], x, "")
		if fault != api.OK {
			return fault
		}
		x.kind = kind
		return p.sight.Add(api.Cell{Name: x.item.Name, Kind: kind, Loops: x.loops})
	}
	return api.OK
}

func (p *plan) checkLoop(x *entry) api.Fault {
	if len(x.item.Count) == 1 {
		return p.checkKind(x.item.Count[0], api.Number, x, "")
	}
	over := p.named[x.item.Over]
	if over == nil || over.item.Kind != api.ItemQuestion {
		return api.ErrName
	}
	if !p.isAhead(over, x) {
		return api.ErrEarly
	}
	if over.kind != api.Choices {
		return api.ErrType
	}
	if len(over.loops) > len(x.loops) || !slices.Equal(over.loops, x.loops[:len(over.loops)]) {
		return api.ErrName
	}
	if len(p.lists[over.item.Answer.List].Options) > api.MaxRows {
		return api.ErrLarge
	}
	return api.OK
}

func (p *plan) checkQuestion(x *entry) api.Fault {
	for _, only := range x.item.Answer.Only {
		if fault := p.checkKind(only, api.Bool, x, OptionName); fault != api.OK {
			return fault
		}
	}
	for _, check := range x.item.Answer.Checks {
		if fault := p.checkKind(check.Must, api.Bool, x, x.item.Name); fault != api.OK {
			return fault
		}
		if fault := p.checkPhraseAt(check.Phrase, x); fault != api.OK {
			return fault
		}
	}
	return api.OK
}

// checkPhraseAt has the error of a phrase of an item or of its checks.
func (p *plan) checkPhraseAt(phrase api.Phrase, x *entry) api.Fault {
	return p.checkPhrase(phrase, func(e api.Expr) api.Fault {
		_, fault := p.fits(e, x, x.item.Name)
		return fault
	})
}

// checkPhrase has the error of a phrase, where fits has those of an expression in a pipe.
func (p *plan) checkPhrase(phrase api.Phrase, fits func(e api.Expr) api.Fault) api.Fault {
	if len(phrase) != 0 && len(phrase) != len(p.form.Languages) {
		return api.ErrForm
	}
	for _, text := range phrase {
		if fault := checkPhraseText(text, fits); fault != api.OK {
			return fault
		}
	}
	return api.OK
}

func checkPhraseText(text string, fits func(e api.Expr) api.Fault) api.Fault {
	if len(text) > api.MaxPhrase {
		return api.ErrLarge
	}
	if !isPrintable(text) {
		return api.ErrRange
	}
	parts, isRight := partsOf(text)
	if !isRight {
		return api.ErrSyntax
	}
	for _, part := range parts {
		if !part.isPipe {
			continue
		}
		if fault := fits(part.pipe); fault != api.OK {
			return fault
		}
	}
	return api.OK
}

// isPrintable reports whether all bytes of a text can stand in a phrase.
func isPrintable(text string) bool {
	for i := range len(text) {
		if text[i] < 32 || text[i] > 126 {
			return false
		}
	}
	return true
}

// checkKind has the errors of an expression that must fit at an item, and be of a kind.
func (p *plan) checkKind(e api.Expr, kind int, x *entry, also string) api.Fault {
	got, fault := p.fits(e, x, also)
	if fault != api.OK {
		return fault
	}
	if got != kind {
		return api.ErrType
	}
	return api.OK
}

// fits returns the kind of an expression that fits at an item (F2), where a further cell can stand ahead of it, too. If so, all that it names stands ahead; hence its kind is that in the sight of all cells.
func (p *plan) fits(e api.Expr, x *entry, also string) (int, api.Fault) {
	if _, fault := value.Print(e); fault != api.OK {
		return 0, fault
	}
	parts := partsOfExpr(e)
	for _, part := range parts {
		if !p.isNamed(part, also) {
			return 0, api.ErrName
		}
	}
	for _, part := range parts {
		if p.isEarly(part, x, also) {
			return 0, api.ErrEarly
		}
	}
	return p.sight.TypeOf(e, x.loops)
}

// partsOfExpr returns an expression and all expressions within it.
func partsOfExpr(e api.Expr) []api.Expr {
	parts := []api.Expr{e}
	for i := 0; i < len(parts); i++ {
		parts = append(parts, parts[i].Args...)
	}
	return parts
}

// isNamed reports whether there is what an expression itself names.
func (p *plan) isNamed(part api.Expr, also string) bool {
	named := p.named[part.Name]
	switch part.Kind {
	case api.XAnswer:
		return named != nil && named.isCell() || part.Name == OptionName && also == OptionName
	case api.XRow, api.XOver:
		return named != nil && named.item.Kind == api.ItemLoop
	}
	return true
}

// isEarly reports whether an expression itself uses what does not stand ahead of an item.
func (p *plan) isEarly(part api.Expr, x *entry, also string) bool {
	if part.Kind != api.XAnswer && part.Kind != api.XOver || part.Kind == api.XAnswer && part.Name == also {
		return false
	}
	return !p.isAhead(p.named[part.Name], x)
}
