package rules

import (
	"strings"

	"twine/api"
	"twine/path"
)

// word tells how a rule's line begins, the blank ahead of the pattern too.
func word(what int) string {
	switch what {
	case api.RuleSkip:
		return "skip "
	case api.RulePreferA:
		return "prefer a "
	}
	return "prefer b "
}

// Parse reads a text: the line that is wrong.
func Parse(text string) (*Rules, int, api.Errno) {
	if len(text) > api.MaxRules {
		return nil, 0, api.ErrRulesLong
	}
	var list []api.Rule
	for i, line := range strings.Split(text, "\n") {
		if line == "" || line[0] == '#' {
			continue
		}
		x, e := read(line, len(list))
		if e != api.OK {
			return nil, i + 1, e
		}
		list = append(list, x)
	}
	return of(list), 0, api.OK
}

// read tells a line's rule; so many stand ahead of it.
func read(line string, ahead int) (api.Rule, api.Errno) {
	x, ok := cut(line)
	if !ok {
		return api.Rule{}, api.ErrRulesWord
	}
	if ahead >= api.MaxLines {
		return api.Rule{}, api.ErrRulesMany
	}
	if _, e := path.Match(x.Pattern, ""); e != api.OK { // the root is a path: what is refused is the pattern
		return api.Rule{}, api.ErrRulesPattern
	}
	return x, api.OK
}

// cut tells a line's two parts, whatever the pattern is; in memory of its own, so that the rules don't keep the whole text.
func cut(line string) (api.Rule, bool) {
	for what := api.RuleSkip; what <= api.RulePreferB; what++ {
		if pattern, ok := strings.CutPrefix(line, word(what)); ok {
			return api.Rule{What: what, Pattern: strings.Clone(pattern)}, true
		}
	}
	return api.Rule{}, false
}
