package quest

import (
	"slices"

	"canvass/api"
	"canvass/value"
)

// Equal reports whether two forms are equal in all fields (F5).
func Equal(a, b api.Form) bool {
	return a.Name == b.Name && a.Version == b.Version && slices.Equal(a.Languages, b.Languages) && slices.EqualFunc(a.Lists, b.Lists, sameList) && slices.EqualFunc(a.Items, b.Items, sameItem)
}

func sameList(a, b api.List) bool {
	return a.Name == b.Name && slices.EqualFunc(a.Options, b.Options, sameOption)
}

func sameOption(a, b api.Option) bool {
	return a.Code == b.Code && a.Alone == b.Alone && a.Last == b.Last && slices.Equal(a.Phrase, b.Phrase)
}

func sameItem(a, b api.Item) bool {
	return a.Name == b.Name && sameRoute(a, b) && slices.Equal(a.Phrase, b.Phrase) && sameAnswer(a.Answer, b.Answer) && slices.EqualFunc(a.Items, b.Items, sameItem)
}

// sameRoute compares what says whether, and in which order, an item and those within it are asked.
func sameRoute(a, b api.Item) bool {
	return a.Kind == b.Kind && a.Shuffle == b.Shuffle && a.Over == b.Over && sameExprs(a.If, b.If) && sameExprs(a.Count, b.Count) && sameExprs(a.Compute, b.Compute)
}

func sameAnswer(a, b api.Answer) bool {
	return sameAnswerBut(a, b, sameRule)
}

// sameAnswerBut compares answers, whose checks are compared by a function.
func sameAnswerBut(a, b api.Answer, sameCheck func(a, b api.Rule) bool) bool {
	return a.Kind == b.Kind && a.Low == b.Low && a.High == b.High && a.Places == b.Places && a.List == b.List && a.Shuffle == b.Shuffle && a.Need == b.Need &&
		sameExprs(a.Only, b.Only) && slices.Equal(a.Reasons, b.Reasons) && slices.EqualFunc(a.Checks, b.Checks, sameCheck)
}

func sameRule(a, b api.Rule) bool { return sameDemand(a, b) && slices.Equal(a.Phrase, b.Phrase) }

// sameDemand compares checks without their phrases.
func sameDemand(a, b api.Rule) bool { return a.Soft == b.Soft && sameExpr(a.Must, b.Must) }

func sameExprs(a, b []api.Expr) bool { return slices.EqualFunc(a, b, sameExpr) }

func sameExpr(a, b api.Expr) bool {
	return a.Kind == b.Kind && a.Op == b.Op && a.Name == b.Name && value.Compare(a.Value, b.Value) == 0 && sameExprs(a.Args, b.Args)
}
