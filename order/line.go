package order

import "convoy/api"

// place is where a key stands: between the one that was used ahead of it and the one that was used behind it.
type place struct {
	key   api.Key
	older *place // nil of the oldest
	newer *place // nil of the latest
}

// line is places that are linked, so that one in the midst is taken out without a walk; its zero value has none.
type line struct {
	oldest *place
	latest *place
}

// add lays a place that stands nowhere behind all others.
func (l *line) add(p *place) {
	p.older, p.newer = l.latest, nil
	if l.latest == nil {
		l.oldest = p
	} else {
		l.latest.newer = p
	}
	l.latest = p
}

// remove takes out a place that stands in this line.
func (l *line) remove(p *place) {
	if p.older == nil {
		l.oldest = p.newer
	} else {
		p.older.newer = p.newer
	}
	if p.newer == nil {
		l.latest = p.older
	} else {
		p.newer.older = p.older
	}
}
