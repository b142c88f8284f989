package script

import (
	"testing"

	"twine/api"
)

// This file: calls, each held against the plain one.

// setupOf reads a setup and tells its fault, if it has one.
func setupOf(t testing.TB, text string) (api.Setup, string) {
	t.Helper()
	s, err := Setup(text)
	plain, plainErr := plainSetup(text)
	if place(err) != place(plainErr) || s != plain {
		t.Fatalf("Setup of %s: got %v, %s, want %v, %s", short(text), s, place(err), plain, place(plainErr))
	}
	return s, place(err)
}

// parseOf reads a script and tells its fault, if it has one.
func parseOf(t testing.TB, text string) ([]api.Step, string) {
	t.Helper()
	l, err := Parse(text)
	plain, plainErr := plainParse(text)
	if place(err) != place(plainErr) {
		t.Fatalf("Parse of %s: got %s, want %s", short(text), place(err), place(plainErr))
	}
	if !alike(l, plain) {
		t.Fatalf("Parse of %s: got %v, want %v", short(text), l, plain)
	}
	return l, place(err)
}

// printOf writes steps and tells the fault, if there is one.
func printOf(t testing.TB, l []api.Step) (string, string) {
	t.Helper()
	text, err := Print(l)
	plain, plainErr := plainPrint(l)
	if text != plain || place(err) != place(plainErr) {
		t.Fatalf("Print of %v: got %s, %s, want %s, %s", l, short(text), place(err), short(plain), place(plainErr))
	}
	return text, place(err)
}

// playOf plays a script that is right.
func playOf(t testing.TB, setup, text string) string {
	t.Helper()
	told, err := Play(setup, text)
	want(t, "Play of "+short(text), place(err), "fine")
	s, _ := plainSetup(setup)
	l, _ := plainParse(text)
	if plain := plainCut(plainPlay(s, l)); told != plain {
		t.Fatalf("Play of %s, %s: got %s, want %s", short(setup), short(text), short(told), short(plain))
	}
	return told
}

// reads: a text of such steps.
func reads(t testing.TB, text string, wanted ...api.Step) {
	t.Helper()
	l, fault := parseOf(t, text)
	want(t, "Parse of "+short(text), fault, "fine")
	if !alike(l, wanted) {
		t.Fatalf("Parse of %s: got %v, want %v", short(text), l, wanted)
	}
}

// refuses: a text with such a fault.
func refuses(t testing.TB, text, fault string) {
	t.Helper()
	_, got := parseOf(t, text)
	want(t, "Parse of "+short(text), got, fault)
}
