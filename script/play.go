package script

import (
	"strings"

	"twine/api"
	"twine/rules"
	"twine/run"
	"twine/world"
)

// player: a world, a run over it, and the lines that were told. Each of its parts answers whether it may go on: it may not behind the line `more`.
type player struct {
	world *world.World
	run   *run.Run
	told  strings.Builder
}

func newPlayer(s api.Setup) *player {
	w, _ := world.New(s.Caps, 1, [3][]api.Thing{}) // a setup's caps are such as a world takes
	return &player{world: w, run: run.New(w, s.Most)}
}

func (p *player) playAll(l []api.Step) {
	for _, s := range l {
		if !p.play(s) {
			return
		}
	}
}

func (p *player) play(s api.Step) bool {
	switch s.Kind {
	case api.StepEdit:
		return p.answer("ok", p.world.Edit(s.Volume, s.Edit))
	case api.StepBegin:
		return p.begin(s.Rules)
	case api.StepDo:
		return p.do(s.A)
	case api.StepEnd:
		return p.finish()
	case api.StepTick:
		return p.tick(s.A)
	case api.StepFall:
		p.world.Fall(s.Names, s.Keep)
		return p.lay("fell")
	case api.StepRig:
		p.world.Rig(s.Volume, s.A, s.B, s.C, s.Reading)
		return p.lay("rigged")
	case api.StepCancel:
		return p.answer("cancelled", p.run.Cancel())
	case api.StepForget:
		return p.answer("forgotten", p.run.Forget())
	case api.StepShow:
		return p.show(s.Volume)
	}
	return p.report()
}

// lay lays a line, or `more` in its place.
func (p *player) lay(line string) bool {
	fits := p.told.Len()+len(line)+1 <= api.MaxPlay
	if !fits {
		line = "more"
	}
	p.told.WriteString(line)
	p.told.WriteByte('\n')
	return fits
}

// answer lays a word, or that it was refused.
func (p *player) answer(word string, e api.Errno) bool {
	if e != api.OK {
		word = "refused"
	}
	return p.lay(word + errorPart(e))
}

func (p *player) begin(text string) bool {
	r, line, e := rules.Parse(text)
	if e != api.OK {
		return p.lay(rulesLine(line, e))
	}
	return p.answer("begun", p.run.Begin(r))
}

func (p *player) do(times int) bool {
	for range times {
		if !p.lay(replyLine(p.run.Do())) {
			return false
		}
	}
	return true
}

func (p *player) finish() bool {
	for p.run.Status().Phase != api.DidNothing {
		if !p.do(1) {
			return false
		}
	}
	return true
}

func (p *player) tick(times int) bool {
	for range times {
		p.world.Tick()
	}
	return p.lay("ticked")
}

func (p *player) show(v int) bool {
	for _, t := range p.world.Image(v) {
		if !p.lay(thingLine(t)) {
			return false
		}
	}
	return true
}

func (p *player) report() bool {
	r := p.run.Report()
	if !p.lay(reportLine(r)) {
		return false
	}
	for _, e := range r.Entries {
		if !p.lay(entryLine(e)) {
			return false
		}
	}
	return true
}
