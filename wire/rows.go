package wire

import "sextant/api"

// maxProof is how many digests a certificate's proofs may have, each.
const maxProof = 10240

// A thing's row has its fields in the order of their keys, which rise; it lays what it is given the address of, and
// reads into it.

func partRow(p *api.Part) []field {
	return []field{
		number("f", &p.First),
		number("k", &p.Keys),
		number("l", &p.Life),
		digest("r", &p.Root),
		number("w", &p.Weight),
	}
}

func sigRow(s *api.Sig) []field {
	return []field{
		number("i", &s.Index),
		digests("p", &s.Path, api.MaxDepth),
		digests("v", &s.Wots, api.Chains),
	}
}

func slotRow(x *api.Slot) []field {
	return []field{
		thing("g", sigRow(&x.Sig)),
		number("l", &x.L),
		yes("s", &x.Signed),
	}
}

func revealRow(x *api.Reveal) []field {
	return []field{
		number("p", &x.Pos),
		always(thing("q", partRow(&x.Part))),
		thing("s", slotRow(&x.Slot)),
	}
}

func certRow(c *api.Cert) []field {
	return []field{
		digests("P", &c.PartProof, maxProof),
		digests("S", &c.SlotProof, maxProof),
		digest("c", &c.Root),
		numbers("p", &c.Coins, api.MaxReveals),
		things("r", &c.Reveals, api.MaxReveals, revealRow),
		number("w", &c.Signed),
	}
}

func msgRow(m *api.Msg) []field {
	return []field{
		number("f", &m.First),
		digest("h", &m.Headers),
		number("l", &m.Last),
		number("n", &m.Count),
		digest("v", &m.Parts),
		number("w", &m.Proven),
	}
}

func headerRow(h *api.Header) []field {
	return []field{
		digest("p", &h.Prev),
		number("r", &h.Round),
		digest("s", &h.Seed),
		digest("t", &h.Txns),
	}
}
