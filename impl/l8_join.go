package impl

import (
	"errors"
	"strconv"
)

// How making one of two branches ends.
const (
	JoinFine  = 0
	JoinSame  = 1
	JoinOn    = 2
	JoinClash = 3
	JoinNone  = 4
	JoinFull  = 5
	JoinForm  = 6
)

// joinEnd is how it ends where there is no version of both, and what clashes.
type joinEnd struct {
	code    int
	clashes []Clash
}

func (e joinEnd) Error() string {
	return "no version of both, by code " + strconv.Itoa(e.code)
}

// joinVersions is a room in which two versions are made one, and the place to which what led to the first leads
// then. What is given is to be a copy, as the new version is put behind it.
func joinVersions(own Repo, a int, b int, note string) (Repo, int, error) {
	switch {
	case RepoAhead(own, b, a):
		return own, a, joinEnd{code: JoinSame}
	case RepoAhead(own, a, b):
		return own, b, joinEnd{code: JoinOn}
	}
	sheet, clashes, ok := JoinTry(own, a, b)
	if !ok {
		return own, a, joinEnd{code: JoinFull}
	}
	if len(clashes) > 0 {
		return own, a, joinEnd{code: JoinClash, clashes: clashes}
	}
	joined, made, ok := withCommit(own, Commit{Up: []int{a, b}, Sheet: sheet, Note: note})
	if !ok {
		return own, a, joinEnd{code: JoinFull}
	}
	return joined, made, nil
}

// joinTrial tries it on a copy, so that whatever it ends with, what was handed in is as it was.
func joinTrial(r Repo, into string, from string, note string) (Repo, error) {
	if !RepoOk(r) || !WordOk(note) {
		return Repo{}, joinEnd{code: JoinForm}
	}
	trial, byName := repoCopy(r), headsByName(r.Heads)
	first, hasFirst := byName[into]
	second, hasSecond := byName[from]
	if !hasFirst || !hasSecond {
		return trial, joinEnd{code: JoinNone}
	}
	joined, at, err := joinVersions(trial, r.Heads[first].At, r.Heads[second].At, note)
	joined.Heads[first].At = at
	return joined, err
}

// JoinBase is the version that two were made of; -1, if there is none.
func JoinBase(r Repo, a int, b int) int {
	bases := RepoBases(r, a, b)
	if len(bases) == 0 {
		return -1
	}
	return bases[0]
}

// JoinTry is the map of two versions, what clashes, and whether it can be.
func JoinTry(r Repo, a int, b int) ([]Feat, []Clash, bool) {
	base := JoinBase(r, a, b)
	if base < 0 {
		return nil, nil, false
	}
	return SheetJoin(r.Commits[base].Sheet, r.Commits[a].Sheet, r.Commits[b].Sheet)
}

// JoinHeads makes a version of two branches, to which the first one leads then.
func JoinHeads(r Repo, into string, from string, note string) (Repo, []Clash, int) {
	joined, err := joinTrial(r, into, from, note)
	var end joinEnd
	if errors.As(err, &end) {
		return joined, end.clashes, end.code
	}
	return joined, nil, JoinFine
}
