package impl

// How making one of two branches ends.
const (
	JoinFine  = 0
	JoinSame  = 1
	JoinOn    = 2
	JoinClash = 3
	JoinNone  = 4
	JoinFull  = 5
	JoinForm  = 6
)

// JoinBase is the version that two were made of; -1, if there is none.
func JoinBase(r Repo, a int, b int) int { return 0 }

// JoinTry is the map of two versions, what clashes, and whether it can be.
func JoinTry(r Repo, a int, b int) ([]Feat, []Clash, bool) { return nil, nil, false }

// JoinHeads makes a version of two branches, to which the first one leads then.
func JoinHeads(r Repo, into string, from string, note string) (Repo, []Clash, int) {
	return Repo{}, nil, 0
}
