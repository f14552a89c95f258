package study

import (
	"fmt"
	"strings"
	"testing"

	"canvass/api"
)

// TestCodebook holds T7.
func TestCodebook(t *testing.T) {
	f := formOf(t, homeLines)
	for language, want := range []string{
		`{sex 4 [] You? [{1 Man} {2 Woman}]}
{age 2 [] How old, {sex}? []}
{likes 5 []  [{7 Seven} {3 } {5 } {9 Nine {{of}}}]}
{born 6 []  []}
{note 3 []  []}
{kids 2 []  []}
{grown 7 []  []}
{kid 2 [row] Child {row(row)} []}
{kind 4 [row]  [{1 Man} {2 Woman}]}
{why 3 [like deep]  []}
{long 2 [like deep]  []}`,
		`{sex 4 [] Vous? [{1 Homme} {2 Femme}]}
{age 2 [] Age? []}
{likes 5 []  [{7 Sept} {3 } {5 } {9 Neuf}]}
{born 6 []  []}
{note 3 []  []}
{kids 2 []  []}
{grown 7 []  []}
{kid 2 [row] Enfant []}
{kind 4 [row]  [{1 Homme} {2 Femme}]}
{why 3 [like deep]  []}
{long 2 [like deep]  []}`,
	} {
		l, fault := Codebook(f, language)
		var lines []string
		for _, v := range l {
			lines = append(lines, fmt.Sprint(v))
		}
		is(t, "Codebook", strings.Join(lines, "\n"), want)
		refuses(t, "Codebook", api.OK, l, fault)
	}
	for _, language := range []int{-1, 2, 1 << 62, -1 << 62} {
		l, fault := Codebook(f, language)
		refuses(t, "language", api.ErrRange, l, fault)
	}
	other := f
	other.Name = "not"
	l, fault := Codebook(other, 2)
	refuses(t, "the form comes first", api.ErrName, l, fault)
	f = formOf(t, "form f 1\nlanguages en\nlist l\n  option 1\npage p\n  question a choice l\n  compute b = a\nend bye\n")
	l, fault = Codebook(f, 0)
	is(t, "a computed value has no options", fmt.Sprint(l, fault), "[{a 4 []  [{1 }]} {b 4 []  []}] 0")
	l, fault = Codebook(formOf(t, "form f 1\nlanguages en\n"), 0)
	is(t, "no cells", fmt.Sprint(l, fault), "[] 0")
}
