package tower

import (
	"iter"
	"strconv"

	"reclaim/api"
	"reclaim/census"
	"reclaim/script"
)

// Of an account's run no reading of package census answers an error: it goes together.

// machine is the line that a script of the configuration begins with.
func (a *account) machine() iter.Seq[string] {
	line, _ := script.Print(a.config, nil)
	return lines(line)
}

// faults is a line for each fault.
func (a *account) faults() iter.Seq[string] {
	faults, _ := census.Faults(a.config, used, a.run)
	return linesOf(faults, faultLine)
}

func faultLine(_ int, f api.Fault) string {
	return filled("fault _ move _ slot _", faultWord(f.Kind), strconv.Itoa(f.Move), strconv.Itoa(f.Slot))
}

func faultWord(k api.FaultKind) string {
	switch k {
	case api.FaultFree:
		return "free"
	case api.FaultForeign:
		return "foreign"
	case api.FaultShift:
		return "shift"
	}
	return "hazard"
}

func (a *account) dishonest() iter.Seq[string] {
	liars, _ := census.Dishonest(a.config, used, a.run)
	return lines(filled("dishonest _", listOf(liars)))
}

func (a *account) peaks() iter.Seq[string] {
	p, _ := census.Peaks(a.config, used, a.run)
	return lines(counted("peaks cached _ owned _ linked _ detached _ retired _ gap _ steps _",
		p.Cached, p.Owned, p.Linked, p.Detached, p.Retired, p.Gap, p.Steps))
}

func (a *account) bounds() iter.Seq[string] {
	listed, _ := census.Listed(a.config)
	retired, _ := census.Retired(a.config)
	solo, _ := census.Solo(a.config)
	window, _ := census.Window(a.config)
	return lines(counted("bounds listed _ retired _ solo _ window _", listed, retired, solo, window))
}

// made is how many of each thing the run has.
func (a *account) made() iter.Seq[string] {
	return lines(counted("made _ calls, _ accesses, _ shifts", len(a.run.Calls), len(a.run.Trace), len(a.run.Shifts)))
}
