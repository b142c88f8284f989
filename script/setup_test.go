package script

import (
	"fmt"
	"strings"
	"testing"

	"twine/api"
)

func setsUp(t testing.TB, text string, wanted api.Setup) {
	t.Helper()
	s, fault := setupOf(t, text)
	want(t, "Setup of "+short(text), fault, "fine")
	want(t, "Setup of "+short(text), s, wanted)
}

func setupRefuses(t testing.TB, text, fault string) {
	t.Helper()
	_, got := setupOf(t, text)
	want(t, "Setup of "+short(text), got, fault)
}

func TestP20_4Setup(t *testing.T) {
	s := api.Setup{Caps: api.Caps{Bytes: [3]int{1, 2, 3}, Names: [3]int{4, 5, 6}}, Most: 7}
	text := "bytes 1 2 3 names 4 5 6 most 7"
	setsUp(t, text, s)
	setsUp(t, text+"\n", s)
	setsUp(t, "\n\n"+text+"\n\n# x\n", s)
	setsUp(t, strings.ReplaceAll(text, " ", "\n"), s)
	setsUp(t, strings.ReplaceAll(text, " ", "\t"), s)
	setsUp(t, strings.ReplaceAll(text, " ", "# \" names\n\n\t"), s)
	setsUp(t, "bytes 1 2\n3 names\n4 5 6 most\n7", s)
	s.Most = -7
	setsUp(t, "bytes 1 2 3\nnames 4 5 6\nmost -7", s)
	s.Most = 0
	setsUp(t, "bytes 1 2 3\nnames 4 5 6\nmost 0", s)
}

// Each of its numbers at its bounds and beyond them.
func TestP20_4Bounds(t *testing.T) {
	const most = 1 << 40
	words := strings.Fields("bytes 0 0 0 names 0 0 0 most 0")
	for i, w := range words {
		if w != "0" {
			continue
		}
		low, high := 0, most
		switch {
		case i == 9:
			low = -most
		case i > 4:
			high = maxNames
		}
		for n, fits := range map[int]bool{low - 1: false, low: true, low + 1: true, high - 1: true, high: true, high + 1: false, 1 << 62: false, -1 << 62: false} {
			l := append([]string{}, words...)
			l[i] = fmt.Sprint(n)
			s, fault := setupOf(t, strings.Join(l, "  "))
			if !fits {
				want(t, fmt.Sprint(l), fault, fmt.Sprint("201 at ", len(strings.Join(l[:i], "  "))+2))
				continue
			}
			want(t, fmt.Sprint(l), fault, "fine")
			all := []int{s.Caps.Bytes[0], s.Caps.Bytes[1], s.Caps.Bytes[2], s.Caps.Names[0], s.Caps.Names[1], s.Caps.Names[2], s.Most}
			want(t, fmt.Sprint(l), all[[]int{0, 0, 1, 2, 0, 3, 4, 5, 0, 6}[i]], n)
		}
	}
}

// Too short at each of its words: the end of the text is told, behind blanks, comments and line feeds.
func TestP20_4Short(t *testing.T) {
	words := strings.Fields("bytes 1 2 3 names 4 5 6 most 7")
	for n := range words {
		text := strings.Join(words[:n], " ")
		for _, rest := range []string{"", " ", "\n", "\n\n", " # x", "\n# x\n\t\n", "\n#\""} {
			setupRefuses(t, text+rest, fmt.Sprint("204 at ", len(text+rest)))
		}
	}
}

// At each of its words whatever else may stand there.
func TestP20_4Wrong(t *testing.T) {
	words := strings.Fields("bytes 1 2 3 names 4 5 6 most 7")
	for i, w := range words {
		number := "201 at "
		others := []string{"x", "-1099511627777", "01", `"x"`, "1x", `"` + w + `"`, "é", "\xff"}
		if w[0] > '9' {
			number = "200 at "
			others = append(others, "7", "Bytes", "byte", "name", "bytesx", w[:len(w)-1], w+"s", strings.ToUpper(w), "\r")
		} else {
			others = append(others, "bytes", "names", "most", "-0", "\r")
		}
		for _, other := range others {
			for _, between := range []string{" ", "\n", "#\n\t"} {
				l := append([]string{}, words...)
				l[i] = other
				at := len(strings.Join(l[:i], between))
				if i > 0 {
					at += len(between)
				}
				setupRefuses(t, strings.Join(l, between), fmt.Sprint(number, at))
			}
		}
	}
}

// Words too many, on the same line and on others.
func TestP20_4Behind(t *testing.T) {
	for _, x := range []string{"1", "x", `"x"`, `"`, "most", "bytes 0 0 0", "-", "\r", "é"} {
		for _, between := range []string{" ", "\n", "\n\n# x\n "} {
			text := noCaps + between
			setupRefuses(t, text+x, fmt.Sprint("200 at ", len(text)))
			setupRefuses(t, text+x+"\nmore", fmt.Sprint("200 at ", len(text)))
		}
	}
}

func TestP20_4Long(t *testing.T) {
	want(t, "MaxSetup", api.MaxSetup, maxSetup)
	s := api.Setup{Most: 100}
	setsUp(t, noCaps+strings.Repeat(" ", maxSetup-len(noCaps)), s)
	setsUp(t, strings.Repeat("\n", maxSetup-len(noCaps))+noCaps, s)
	setsUp(t, noCaps+"#"+strings.Repeat("x", maxSetup-1-len(noCaps)), s)
	for _, text := range []string{
		noCaps + strings.Repeat(" ", maxSetup+1-len(noCaps)),
		strings.Repeat("\n", maxSetup+1),
		"x" + strings.Repeat(" ", maxSetup),
		strings.Repeat("\"", maxSetup+1),
		strings.Repeat("x", 100000),
	} {
		setupRefuses(t, text, "202 at 0")
	}
	setupRefuses(t, "x"+strings.Repeat(" ", maxSetup-1), "200 at 0")
	setupRefuses(t, strings.Repeat("\n", maxSetup), fmt.Sprint("204 at ", maxSetup))
}
