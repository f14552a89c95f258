package study

import (
	"fmt"
	"strings"
	"testing"

	"canvass/api"
)

// lostText returns a text for lost answers, as `age:1 kid.2:5`.
func lostText(l []api.Lost) string {
	var out []string
	for _, x := range l {
		out = append(out, fmt.Sprint(keyText(x.Key), ":", x.Kind))
	}
	return strings.Join(out, " ")
}

// TestCarry holds T10.
func TestCarry(t *testing.T) {
	a, b := formOf(t, oldLines), formOf(t, newLines)
	const all = "age years, note remark, sex gender 2>2 3>0, taste taste 5>9"
	for _, x := range []struct{ what, maps, given, carried, lost string }{
		{"nothing", "", "", "", ""},
		{"by the same name", "", "kids=2 born=@2000-01-01 age=20", "kids=2 born=@2000-01-01 age=20", ""},
		{"in the order of the old ones", "", "born=@2000-01-01 age=20 kid.3=9 kid.1=0 kids=2", "born=@2000-01-01 age=20 kid.3=9 kid.1=0 kids=2", ""},
		{"by a map", all, "age=20.5 note='it''s' sex=#1", "years=20.5 remark='it''s' gender=#1", ""},
		{"a question that the new form does not have", "age years", "gone=1 age=1 note='x'", "years=1", "gone:3 note:2"},
		{"another kind", "", "note='x'", "", "note:2"},
		{"other loops", "", "toy.1=#1 toy.2=- gone=-", "", "toy.1:3 toy.2:3 gone:3"},
		{"other loops by a map", "kid years", "kid.2=1", "", "kid.2:3"},
		{"an option with another phrase", "", "sex=#2", "", "sex:4"},
		{"an option with the same phrase at another place", "", "sex=#1", "sex=#1", ""},
		{"an option by a map of Codes", all, "sex=#2", "gender=#2", ""},
		{"an option without a new one", all, "sex=#3", "", "sex:4"},
		{"an option that the old list does not have, but the new one", "", "sex=#8", "", "sex:4"},
		{"an option that no list has", "", "sex=#99", "", "sex:4"},
		{"Choices", "", "taste={#4}", "taste={#4}", ""},
		{"Choices, one of which has another phrase", "", "taste={#4,#6}", "", "taste:4"},
		{"Choices without texts", "", "taste={#4,#7}", "taste={#4,#7}", ""},
		{"Choices, one of which is in another place", "taste taste 4>9", "taste={#4,#7}", "taste={#7,#9}", ""},
		{"Choices, two of which become one", "taste taste 4>9 5>9", "taste={#4,#5}", "", "taste:4"},
		{"Choices, two of which become one, which stays", "taste taste 4>7", "taste={#4,#7}", "", "taste:4"},
		{"Choices, one of which becomes none", "taste taste 4>0", "taste={#4,#7}", "", "taste:4"},
		{"too many Choices", "taste taste 4>4 6>6", "taste={#4,#6,#7}", "", "taste:5"},
		{"too many Choices, one of which is lost", "", "taste={#4,#6,#7}", "", "taste:4"},
		{"no Choices", "", "taste={}", "taste={}", ""},
		{"what the old form would not accept", "taste taste 5>9", "taste={#5,#7} age=1000000", "taste={#7,#9}", "age:5"},
		{"a number out of the range", "", "age=17 kids=9", "kids=9", "age:5"},
		{"a number with too many digits", "", "age=18.5", "", "age:5"},
		{"a long text", "note remark", "note='123456'", "", "note:5"},
		{"a special that is not permitted", all, "sex=refused age=dontknow", "", "sex:5 age:5"},
		{"Missing", all, "sex=- age=- kid.7=- gone=- taste=-", "gender=- years=- kid.7=- taste=-", "gone:3"},
		{"Missing of another kind", "", "note=-", "", "note:2"},
		{"values of other kinds", "", "age=#4 kids='x' born=5 sex=7 taste=#4 kid.1={} kid.2={#1}", "", "age:4 kids:5 born:5 sex:5 taste:5 kid.1:5 kid.2:4"},
		{"all at once", all, "kids=2 sex=#1 gone=1 kid.1=5 kid.2=50 toy.1=#1 age=7", "kids=2 gender=#1 kid.1=5 years=7", "gone:3 kid.2:5 toy.1:3"},
		{"maps that exchange names", "age years, kids age", "age=3 kids=19", "years=3 age=19", ""},
	} {
		maps := mapsOf(t, x.maps)
		carried, lost, fault := Carry(a, b, maps, answers(t, x.given))
		is(t, x.what, answersText(carried), x.carried)
		is(t, x.what+", lost", lostText(lost), x.lost)
		refuses(t, x.what, api.OK, carried, lost, fault)
	}
}

// TestCarryBetween holds T10 for forms of their own.
func TestCarryBetween(t *testing.T) {
	for _, x := range []struct {
		what          string
		old, next     []string
		maps, given   string
		carried, lost string
	}{
		{"no such question", []string{"question a number 0 9"}, []string{"question b number 0 9"}, "", "a=1", "", "a:1"},
		{"a computed value of this name", []string{"question a number 0 9"}, []string{"compute a = 1"}, "", "a=1 ", "", "a:1"},
		{"a Missing that leads nowhere", []string{"question a number 0 9"}, nil, "", "a=-", "", "a:1"},
		{"Choice and Choices", []string{"list l 1", "question a choice l"}, []string{"list l 1", "question a choices l 0 1"}, "", "a=#1", "", "a:2"},
		{"Choice and Choices, by a map with Codes", []string{"list l 1", "question a choice l"}, []string{"list l 1", "question b choices l 0 1"}, "a b 1>1", "a=#1", "", "a:2"},
		{"another list", []string{"list l 1 2", "question a choice l"}, []string{"list k 2 3", "question a choice k"}, "", "a=#2", "a=#2", ""},
		{"a question with Need", []string{"question a number 0 9"}, []string{"question a number 0 9 need"}, "", "a=-", "a=-", ""},
		{"reasons", []string{"question a number 0 9"}, []string{"question a number 0 9 reasons refused"}, "", "a=refused", "a=refused", ""},
		{"another reason", []string{"question a number 0 9"}, []string{"question a number 0 9 reasons refused"}, "", "a=dontknow", "", "a:5"},
		{"alone", []string{"list l 1 2", "question a choices l 0 2"}, []string{"list l 1 2", "question a choices l 0 2"}, "", "a={#1,#2}", "a={#1,#2}", ""},
		{"Only is of no matter", []string{"list l 1 2", "question a choice l"}, []string{"list l 1 2", "question a choice l", "  only option = #1"}, "", "a=#2", "a=#2", ""},
		{"If is of no matter", []string{"question a number 0 9"}, []string{"question a number 0 9", "  if false"}, "", "a=2", "a=2", ""},
		{"codes exchanged", []string{"list l 1 2", "question a choices l 0 2", "question b choice l"}, []string{"list l 1 2", "question a choices l 0 2", "question b choice l"}, "a a 1>2 2>1, b b 1>2 2>1", "a={#1,#2} b=#1", "a={#1,#2} b=#2", ""},
		{"codes in another order", []string{"list l 1 2 3", "question a choices l 0 3"}, []string{"list l 5 6 7", "question a choices l 0 3"}, "a a 1>7 2>5 3>6", "a={#1,#2,#3}", "a={#5,#6,#7}", ""},
	} {
		carried, lost, fault := Carry(short(t, x.old...), short(t, x.next...), mapsOf(t, x.maps), answers(t, x.given))
		is(t, x.what, answersText(carried), x.carried)
		is(t, x.what+", lost", lostText(lost), x.lost)
		refuses(t, x.what, api.OK, carried, lost, fault)
	}
	alone := short(t, "list l 1 2", "question a choices l 0 2")
	alone.Lists[0].Options[1].Alone = true
	carried, lost, fault := Carry(short(t, "list l 1 2", "question a choices l 0 2"), alone, nil, answers(t, "a={#1,#2}"))
	is(t, "an option that is alone now", fmt.Sprint(answersText(carried), lostText(lost)), "a:5")
	refuses(t, "an option that is alone now", api.OK, carried, lost, fault)
}

// TestCarryFaults holds the errors of T10 and their order.
func TestCarryFaults(t *testing.T) {
	a, b := formOf(t, oldLines), formOf(t, newLines)
	for _, x := range []struct {
		given string
		want  api.Fault
	}{
		{"years=1", api.ErrName}, {"p=1", api.ErrName}, {"known=true", api.ErrName}, {"age.1=1", api.ErrForm}, {"kid=1", api.ErrForm},
		{"kid.0=1", api.ErrRange}, {"kid.1000=1", api.ErrRange}, {"age=true", api.ErrKind}, {"age=1 age=1", api.ErrTwice}, {"kid.1=1 kid.2=1 kid.1=-", api.ErrTwice},
	} {
		carried, lost, fault := Carry(a, b, nil, answers(t, x.given))
		refuses(t, x.given, x.want, carried, lost, fault)
	}
	bad := []api.Given{{Key: api.Key{Name: "age"}, Value: api.Value{Kind: api.Number, N: api.MaxNumber + 1}}}
	carried, lost, fault := Carry(a, b, nil, bad)
	refuses(t, "a value that is not sound", api.ErrRange, carried, lost, fault)
	carried, lost, fault = Carry(a, b, mapsOf(t, "age kids"), bad)
	refuses(t, "maps come first", api.ErrConflict, carried, lost, fault)
	other := b
	other.Name = "not"
	carried, lost, fault = Carry(a, other, mapsOf(t, "age kids"), bad)
	refuses(t, "the new form comes first", api.ErrName, carried, lost, fault)
	carried, lost, fault = Carry(wrong(a), other, mapsOf(t, "age kids"), bad)
	refuses(t, "the old form comes first", api.ErrRange, carried, lost, fault)
}
