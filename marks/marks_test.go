package marks_test

import (
	"math"
	"slices"
	"strings"
	"testing"

	"byway/api"
	"byway/marks"
	"byway/sample"
)

const letters = "abcdefghijklmnopqrstuvwxyzABCDEFGHIJKLMNOPQRSTUVWXYZ"
const digits = "0123456789"
const signs = "=;|*+?()%"
const blanks = " \t\n\r"

func mark(kind api.MarkKind, at int, text string) api.Mark {
	return api.Mark{Kind: kind, At: at, Text: text}
}

func all(text string) []api.Mark {
	return slices.Collect(marks.All(text))
}

// plain are the marks of a text, the place of the first wrong byte or -1.
func plain(text string) ([]api.Mark, int) {
	var l []api.Mark
	for at := 0; at < len(text); {
		c := text[at : at+1]
		switch {
		case strings.Contains(blanks, c):
			at++
		case strings.Contains(signs, c):
			l = append(l, mark(api.MarkIs+api.MarkKind(strings.Index(signs, c)), at, c))
			at++
		case strings.Contains(letters+digits+"_", c):
			end := at
			for end < len(text) && strings.Contains(letters+digits+"_", text[end:end+1]) {
				end++
			}
			kind := api.MarkOther
			if strings.Contains(letters[:26], c) {
				kind = api.MarkLower
			} else if strings.Contains(letters, c) {
				kind = api.MarkUpper
			}
			l = append(l, mark(kind, at, text[at:end]))
			at = end
		default:
			return l, at
		}
	}
	return l, -1
}

func check(t *testing.T, text string) {
	t.Helper()
	want, wrong := plain(text)
	if got := all(text); !slices.Equal(got, want) {
		t.Fatalf("All(%q) is %v, not %v", text, got, want)
	}
	l, at, e := marks.Scan(text)
	if wrong >= 0 {
		if len(l) != 0 || at != wrong || e != api.ErrByte {
			t.Fatalf("Scan(%q): %v, %d, %v", text, l, at, e)
		}
	} else if !slices.Equal(l, want) || at != 0 || e != api.OK {
		t.Fatalf("Scan(%q): %v, %d, %v", text, l, at, e)
	}
	kind, is := marks.Kind(text)
	if one := wrong < 0 && len(want) == 1 && want[0].Text == text; is != one || one && kind != want[0].Kind || !one && kind != 0 {
		t.Fatalf("Kind(%q): %v, %v", text, kind, is)
	}
}

// P6.1, P6.2
func TestEachByte(t *testing.T) {
	for b := range 256 {
		c := string([]byte{byte(b)})
		for _, text := range []string{c, c + c, "a" + c, c + "a", "a" + c + "a", " " + c, c + " ", "A" + c + "9", ";" + c, "_" + c, c + "="} {
			check(t, text)
		}
	}
}

func TestTexts(t *testing.T) {
	for _, text := range []string{"", " ", "\r\n\t ", "a-b", "S = a_1 * %;", "9a(_)", "a\x00", "é", "a é b", "\xff", "_a", "A9_z", "a|b", "%%", "((", strings.Repeat("x", 5000), strings.Repeat("( ", 5000), strings.Repeat(" ", 5000) + "$"} {
		check(t, text)
	}
	n := sample.Noise(1)
	bytes := letters[:3] + "ABC19_" + signs + blanks + "  -"
	for range 3000 {
		var text []byte
		for range n.Below(20) {
			text = append(text, bytes[n.Below(len(bytes)-n.Below(2))])
		}
		check(t, string(text))
	}
}

func TestLeftEarly(t *testing.T) {
	seq := marks.All("a b c")
	for range 2 {
		count := 0
		for range seq {
			count++
			if count == 2 {
				break
			}
		}
		if count != 2 {
			t.Error(count)
		}
	}
}

// P6.2
func TestText(t *testing.T) {
	if text, e := marks.Text(); text != "" || e != api.OK {
		t.Error(text, e)
	}
	if text, e := marks.Text(mark(api.MarkLower, 99, "a"), mark(api.MarkEnd, -7, ";"), mark(api.MarkOther, 0, "_")); text != "a ; _" || e != api.OK {
		t.Error(text, e)
	}
	good := mark(api.MarkLower, 0, "a")
	for _, wrong := range []api.Mark{
		mark(api.MarkUpper, 0, "a"), mark(0, 0, ""), mark(api.MarkLower, 0, ""), mark(api.MarkLower, 0, "a b"), mark(api.MarkLower, 0, "a "),
		mark(api.MarkLower, 0, " a"), mark(api.MarkLower, 0, "a;"), mark(0, 0, "-"), mark(api.MarkOther, 0, "-"), mark(13, 0, "x"), mark(-1, 0, "x"),
		mark(api.MarkStar, 0, "**"), mark(api.MarkStar, 0, "+"), mark(0, 0, "a"),
	} {
		for _, l := range [][]api.Mark{{wrong}, {good, wrong}, {wrong, good}} {
			if text, e := marks.Text(l...); text != "" || e != api.ErrArg {
				t.Error(l, text, e)
			}
		}
	}
}

// P6.3
func TestPlace(t *testing.T) {
	for _, text := range []string{"", "a", "\n", "ab\nc", "\n\n", "a\r\nb\n", "x\n\ny"} {
		line, column := 0, 0
		for at := 0; at <= len(text); at++ {
			if l, c, e := marks.Place(text, at); l != line || c != column || e != api.OK {
				t.Error(text, at, l, c, e)
			}
			column++
			if at < len(text) && text[at] == '\n' {
				line++
				column = 0
			}
		}
		for _, at := range []int{-1, len(text) + 1, math.MinInt, math.MaxInt} {
			if l, c, e := marks.Place(text, at); l != 0 || c != 0 || e != api.ErrArg {
				t.Error(text, at, l, c, e)
			}
		}
	}
}

func TestPlaceExamples(t *testing.T) {
	for at, want := range map[int][2]int{3: {1, 0}, 2: {0, 2}, 4: {1, 1}} {
		if l, c, e := marks.Place("ab\nc", at); l != want[0] || c != want[1] || e != api.OK {
			t.Error(at, l, c, e)
		}
	}
}

// P6.4
func TestWhatFollows(t *testing.T) {
	n := sample.Noise(2)
	pool := []string{"a", "S", "9", "_x", "=", ";", "|", "*", "+", "?", "(", ")", "%", "long_word_1"}
	for range 300 {
		var l []api.Mark
		spread := ""
		for range n.Below(12) {
			word := pool[n.Below(len(pool))]
			kind, _ := marks.Kind(word)
			l = append(l, mark(kind, n.Below(100), word))
			spread += blanks[n.Below(4):n.Below(1)+4] + word + " "
		}
		text, e := marks.Text(l...)
		if e != api.OK {
			t.Fatal(e)
		}
		for _, text := range []string{text, spread} {
			got, _, e := marks.Scan(text)
			if e != api.OK || len(got) != len(l) {
				t.Fatal(text, e)
			}
			pieces(t, text, got)
			for i, m := range got {
				if m.Kind != l[i].Kind || m.Text != l[i].Text {
					t.Fatal(text, got)
				}
			}
		}
	}
}

func pieces(t *testing.T, text string, l []api.Mark) {
	t.Helper()
	end := 0
	for _, m := range l {
		if m.At < end || text[m.At:m.At+len(m.Text)] != m.Text || strings.Trim(text[end:m.At], blanks) != "" {
			t.Fatal(text, l)
		}
		end = m.At + len(m.Text)
	}
	if strings.Trim(text[end:], blanks) != "" {
		t.Fatal(text)
	}
}
