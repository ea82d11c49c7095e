package suffix

import (
	"iter"
	"strings"

	"footman/api"
)

const (
	star      = "*"
	exception = "!"
	partSigns = "abcdefghijklmnopqrstuvwxyz0123456789-"

	// usualParts are those of the rule `*`, which counts where none fits.
	usualParts = 1
)

// rule is one that was checked.
type rule struct {
	parts   []string
	excepts bool // `!` stands ahead of it
}

func isRule(text string) bool {
	if name, ok := strings.CutPrefix(text, exception); ok {
		// Of one part, none would be left for a suffix.
		return isParts(name) && strings.Contains(name, point)
	}
	return isParts(strings.TrimPrefix(text, star+point))
}

// isParts is asked of what stands behind `*.` or `!`: the document counts MaxHost bytes there, without these.
func isParts(name string) bool {
	if len(name) > api.MaxHost {
		return false
	}
	for _, part := range strings.Split(name, point) {
		if !isPart(part) {
			return false
		}
	}
	return true
}

func isPart(part string) bool {
	for i := range len(part) {
		if strings.IndexByte(partSigns, part[i]) < 0 {
			return false
		}
	}
	return 0 < len(part) && len(part) <= api.MaxLabel
}

func ruleOf(text string) rule {
	name, excepts := strings.CutPrefix(text, exception)
	return rule{parts: strings.Split(name, point), excepts: excepts}
}

// fitting: the rules that fit a host's parts, in their order.
func fitting(rules, parts []string) iter.Seq[rule] {
	return func(yield func(rule) bool) {
		for _, text := range rules {
			r := ruleOf(text)
			if endsWith(parts, r.parts, star) && !yield(r) {
				return
			}
		}
	}
}

// endsWith: are the last ones of a list those of the other one, one by one? Where that one has joker, each may stand.
func endsWith[P comparable](list, last []P, joker P) bool {
	ahead := len(list) - len(last)
	if ahead < 0 {
		return false
	}
	for i, wanted := range last {
		if wanted != joker && wanted != list[ahead+i] {
			return false
		}
	}
	return true
}
