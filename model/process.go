package model

// process is one of a run.
type process struct {
	*run
	next    step    // what it does next; nil, if it has ended
	stopped bool    // whether that is a mark
	waits   bool    // whether it is a wait, for the topmost value
	here    *frame  // what it works on
	values  []value // what is being reckoned, here and where calls were made
	calls   int     // how many have begun and not ended
	rounds  int     // how many conditions of while have begun since its last mark
}

// step is something that a process does. It leaves in next what comes behind.
type step func(*process)

// frame is what main's block, a fork's or a method's works on.
type frame struct {
	self   value
	locals []value // by their numbers; those of blocks that have ended may lie behind
	caller *frame  // of a method: where it was called
	back   step    // of a method: what comes behind the call
}

// goOn does the mark that is next, and goes on to the one behind it.
func (p *process) goOn() {
	p.stopped, p.waits, p.rounds = false, false, 0
	for p.next != nil && !p.stopped {
		does := p.next
		p.next = nil
		does(p)
	}
}

// stop lets the process stop ahead of that mark.
func (p *process) stop(mark step) { p.next, p.stopped = mark, true }

// HasEnded tells whether p has done its block.
func (p *process) HasEnded() bool { return p.next == nil }

// IsAble tells whether p, which has not ended, can do its mark.
func (p *process) IsAble() bool {
	if !p.waits {
		return true
	}
	g := p.gate(p.values[len(p.values)-1])
	return g == nil || g.count > 0
}

func (p *process) push(v value) { p.values = append(p.values, v) }

func (p *process) pop() value { return p.take(1)[0] }

// take takes so many values from the top. They stand only until the next push.
func (p *process) take(many int) []value {
	rest := len(p.values) - many
	taken := p.values[rest:]
	p.values = p.values[:rest]
	return taken
}
