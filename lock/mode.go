package lock

// mode: of a retention, by api's numbers. The stronger one is the greater
// one, which Covers leans on.
type mode int

const (
	none mode = iota
	governance
	compliance
)

// keeps: does it keep a version at all? Other numbers may come in, too.
func (m mode) keeps() bool { return m == governance || m == compliance }

// yields: does it give way? Compliance does to nobody.
func (m mode) yields(bypass bool) bool { return bypass && m != compliance }
