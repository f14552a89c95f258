package sample

import "canvass/api"

// Rates returns the rates of the outcomes of cases (S9).
func Rates(outcomes []int) (api.Rates, api.Fault) {
	if len(outcomes) > api.MaxUnits {
		return api.Rates{}, api.ErrLarge
	}
	var cases [api.OutUnknown + 1]int
	for _, outcome := range outcomes {
		if !isOutcome(outcome) {
			return api.Rates{}, api.ErrKind
		}
		cases[outcome]++
	}
	complete, refused := cases[api.OutComplete], cases[api.OutRefusal]
	interviewed := complete + cases[api.OutPartial]
	reached := interviewed + refused + cases[api.OutOther]
	eligible := reached + cases[api.OutNoContact]
	known := eligible + cases[api.OutIneligible]
	all := eligible + cases[api.OutUnknown]
	return api.Rates{
		Response:    ratio(complete, all),
		WithPartial: ratio(interviewed, all),
		// The part eligible / known of the unknown ones counts: the fraction is multiplied by known, and has no meaning just if eligible is 0.
		Estimated:   ratio(complete*known, eligible*(known+cases[api.OutUnknown])),
		Reached:     ratio(complete, eligible),
		Cooperation: ratio(complete, reached),
		Refusal:     ratio(refused, all),
		Contact:     ratio(reached, all),
	}, api.OK
}
