package sites

import (
	"footman/hosts"
	"footman/suffix"
)

// place stands for the host of an address that may be.
type place interface{ host() string }

// machine has no own name, whatever its text ends with.
type machine string

func (m machine) host() string { return string(m) }

type name struct {
	whole string
	own   string // empty: anybody may register below it
}

func (n name) host() string { return n.whole }

// placeOf: the rules may be, and so may the host.
func placeOf(rules []string, host string) place {
	if hosts.Machine(host) {
		return machine(host)
	}
	// There is no error: it was asked ahead of this what could be one.
	own, _ := suffix.Own(rules, host)
	return name{whole: host, own: own}
}

// together: do two places belong to one site?
func together(a, b place) bool {
	if a.host() == b.host() {
		return true
	}
	switch first := a.(type) {
	case name:
		second, ok := b.(name)
		return ok && first.own != "" && first.own == second.own
	default:
		return false
	}
}
