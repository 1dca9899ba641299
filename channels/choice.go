package channels

import (
	"cmp"
	"slices"
)

// How much waits in a channel.
const (
	nothing = iota
	something
	// aField is as much as a data field has room for, or more.
	aField
)

// choice selects channels.
type choice struct {
	// compare returns a number above 0 if the first channel is to be preferred, below 0 if the second one is, and 0 if neither is.
	compare func(a, b *outlet) int
}

// best returns those of some channels, at least one, to which none of them is to be preferred, in the same order.
func (c choice) best(outlets []*outlet) []*outlet {
	top := slices.MaxFunc(outlets, c.compare)
	var best []*outlet
	for _, o := range outlets {
		if c.compare(o, top) == 0 {
			best = append(best, o)
		}
	}
	return best
}

// choose returns the channel of the next frame, which has used its credit; if nothing waits, that of idle frames.
func (m *Mux) choose() *outlet {
	byBacklog := choice{func(a, b *outlet) int { return cmp.Compare(m.backlog(a), m.backlog(b)) }}
	byPriority := choice{func(a, b *outlet) int { return cmp.Compare(a.priority, b.priority) }}
	byCredit := choice{func(a, b *outlet) int { return cmp.Compare(a.credit, b.credit) }}
	candidates := byBacklog.best(m.all())
	if m.backlog(candidates[0]) == nothing {
		return &m.outlets[idleChannel]
	}
	candidates = byPriority.best(candidates)
	// No credit is below 0.
	if byCredit.best(candidates)[0].credit == 0 {
		m.renew(candidates[0].priority)
	}
	chosen := byCredit.best(candidates)[0]
	chosen.credit--
	return chosen
}

// all returns the channels in the order of their numbers.
func (m *Mux) all() []*outlet {
	var all []*outlet
	for i := range m.outlets {
		all = append(all, &m.outlets[i])
	}
	return all
}

// backlog tells how much waits in a channel.
func (m *Mux) backlog(o *outlet) int {
	switch waiting := o.filler.Waiting(); {
	case waiting >= m.size:
		return aField
	case waiting > 0:
		return something
	}
	return nothing
}

// renew gives each channel with a priority its share as credit.
func (m *Mux) renew(priority int) {
	for _, o := range m.all() {
		if o.priority == priority {
			o.credit = o.share
		}
	}
}
