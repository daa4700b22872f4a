import Derived.Test.YtncoandnelgkeaaGreatHc13
import Derived.Test.YtncoandnelgkeaaGreatHc14
/- The law's small. -/
namespace RlogMath
open QuorumMath
end RlogMath
namespace Go.Proofs.YtncoandnelgkeaaGreat
open Go.RowKit QuorumMath RlogMath
set_option maxRecDepth 100000
set_option linter.unusedSimpArgs false
set_option linter.unusedVariables false

end Go.Proofs.YtncoandnelgkeaaGreat

/- The law's awake. -/
namespace Go.Proofs.YtncoandnelgkeaaGreat
open Go.RowKit QuorumMath RlogMath
set_option maxRecDepth 100000
set_option linter.unusedSimpArgs false
set_option linter.unusedVariables false

end Go.Proofs.YtncoandnelgkeaaGreat

/- The law RlogTells. -/
namespace Go.Proofs.YtncoandnelgkeaaGreat
open Go.RowKit QuorumMath RlogMath
set_option maxRecDepth 100000
set_option linter.unusedSimpArgs false
set_option linter.unusedVariables false

end Go.Proofs.YtncoandnelgkeaaGreat

/- What the results are made of: plain mathematics. -/
namespace RlogMath
open QuorumMath
/-- Numbers and bytes within their kinds. -/
def OkM (e : Me) : Prop := e.idx < 18446744073709551616 ∧ e.term < 18446744073709551616 ∧ (∀ c ∈ e.data, c < 256) ∧ e.data.length ≤ 1000000000
theorem zero_okM : OkM zeroMe := ⟨by decide, by decide, by decide, by decide⟩
theorem votF_bytes : ∀ (l : List Me) (d : List Nat), (∀ e ∈ l, OkM e) → (∀ c ∈ d, c < 256) → ∀ c ∈ votF d l, c < 256
  | [], d, _, h => h
  | e :: l, d, hl, h => by
    rw [votF]
    refine votF_bytes l _ (fun y hy => hl y (List.mem_cons_of_mem _ hy)) ?_
    split
    · exact (hl e List.mem_cons_self).2.2.1
    · exact h
theorem term_lt {b : Me} {l : List Me} {x t : Nat} (hb : OkM b) (hl : ∀ e ∈ l, OkM e) (h : termM b l x = some t) : t < 18446744073709551616 := by
  unfold termM at h
  split at h
  · cases h; exact hb.2.1
  · obtain ⟨k, e, h1, h2, rfl⟩ := termF_in h
    exact (hl e (List.mem_of_getElem? h1)).2.1
theorem comp_okM {b : Me} {l : List Me} {x : Nat} (hb : OkM b) (hl : ∀ e ∈ l, OkM e) (hx : x < 18446744073709551616) : OkM (compM b l x).2.1 ∧ (∀ e ∈ (compM b l x).2.2, OkM e) ∧ (compM b l x).2.2.length ≤ l.length := by
  have hz : OkM zeroMe ∧ (∀ e ∈ ([] : List Me), OkM e) ∧ ([] : List Me).length ≤ l.length := ⟨zero_okM, by simp, by simp⟩
  by_cases h : mayB b l = true
  · by_cases h2 : x ≤ b.idx
    · rw [comp_old h h2]; exact hz
    · cases ht : termM b l x with
      | none => rw [comp_gap h h2 ht]; exact hz
      | some t =>
        rw [comp_place h h2 ht]
        refine ⟨⟨hx, term_lt hb hl ht, votF_bytes _ _ (fun e he => hl e (List.mem_of_mem_take he)) hb.2.2.1, votF_len _ _ (fun e he => (hl e (List.mem_of_mem_take he)).2.2.2) hb.2.2.2⟩, fun e he => hl e (List.mem_of_mem_drop he), ?_⟩
        show (l.drop _).length ≤ _
        rw [List.length_drop]
        omega
  · rw [comp_no (by simpa using h)]; exact hz
theorem app_okM {b : Me} {l : List Me} {t : Nat} {k : Int} {d : List Nat} (hb : OkM b) (hl : ∀ e ∈ l, OkM e) (ht : t < 18446744073709551616) (hd : ∀ c ∈ d, c < 256) (hdl : d.length ≤ 1000000000) : OkM (appM b l t k d).2.1 ∧ (∀ e ∈ (appM b l t k d).2.2, OkM e) ∧ (appM b l t k d).2.2.length ≤ l.length + 1 := by
  have hz : OkM zeroMe ∧ (∀ e ∈ ([] : List Me), OkM e) ∧ ([] : List Me).length ≤ l.length + 1 := ⟨zero_okM, by simp, by simp⟩
  unfold appM
  split
  · split
    · exact hz
    · rename_i h1 h2
      refine ⟨hb, fun e he => ?_, by simp⟩
      rw [List.mem_append, List.mem_singleton] at he
      rcases he with he | rfl
      · exact hl e he
      · exact ⟨show (lastM b l).1 + 1 < _ by omega, ht, hd, hdl⟩
  · exact hz
end RlogMath
namespace Go.Proofs.YtncoandnelgkeaaGreat
open RlogMath
/-- Entries that say so. -/
theorem okz_of {zs : List Ez} {l : List Me} (h : mes zs = l) (hl : ∀ e ∈ l, OkM e) : ∀ z ∈ zs, EzOk z ∧ z.1.data.length ≤ 1000000000 := fun z hz => by
  have := hl z.1 (by rw [← h]; exact List.mem_map.2 ⟨z, hz, rfl⟩)
  exact ⟨⟨this.1, this.2.1, this.2.2.1⟩, this.2.2.2⟩
theorem mes_okM {zs : List Ez} (h1 : ∀ z ∈ zs, EzOk z) (h2 : ∀ z ∈ zs, z.1.data.length ≤ 1000000000) : ∀ e ∈ mes zs, OkM e := fun e he => by
  obtain ⟨z, hz, rfl⟩ := List.mem_map.1 he
  exact ⟨(h1 z hz).1, (h1 z hz).2.1, (h1 z hz).2.2, h2 z hz⟩
end Go.Proofs.YtncoandnelgkeaaGreat

/- One group's consensus, step by step: the document's own answers as plain mathematics. -/
namespace RaftMath
open QuorumMath RlogMath

/-- A peer: a node, the next index, what it has. -/
structure Mp where
  node : Int
  next : Nat
  mat : Nat
/-- A state. -/
structure Mr where
  node : Int
  term : Nat
  vote : Int
  base : Me
  log : List Me
  commit : Nat
  role : Int
  leads : Int
  elapsed : Int
  votes : List Int
  peers : List Mp
/-- A message. -/
structure Mm where
  kind : Int
  src : Int
  dst : Int
  term : Nat
  index : Nat
  prev : Nat
  ents : List Me
  commit : Nat
  ok : Bool
  mat : Nat
  snap : Me
/-- A state that turns, and what it says. -/
structure Ms where
  r : Mr
  out : List Mm

/-- The last index and term; the voters. -/
def endI (r : Mr) : Nat := (lastM r.base r.log).1
def endT (r : Mr) : Nat := (lastM r.base r.log).2
def votR (r : Mr) : List Int := votM r.base r.log
def peerB (e : Nat) (p : Mp) : Bool := decide (p.mat < p.next) && decide (p.next ≤ e + 1)
def roleB (r : Mr) : Bool :=
  if r.role = 0 then decide (r.votes = []) && decide (r.peers.length = 0)
  else if r.role = 1 then decide (r.peers.length = 0) && (decide (r.votes = []) || votB r.votes)
  else if r.role = 2 then (r.peers.all fun p => peerB (endI r) p) && decide (r.votes = []) && decide ((r.peers.map fun p => p.node) = votR r)
  else false
/-- May a state be? -/
def mayR (r : Mr) : Bool :=
  nodeB r.node && decide (r.term ≤ 4611686018427387904) && decide (0 ≤ r.vote) && decide (r.vote ≤ 7) && decide (0 ≤ r.leads) && decide (r.leads ≤ 7) && decide (0 ≤ r.elapsed) && decide (r.elapsed ≤ 1000)
    && mayB r.base r.log && decide (endT r ≤ r.term) && decide (r.base.idx ≤ r.commit) && decide (r.commit ≤ endI r) && roleB r
/-- Nothing is said yet of a message. -/
def msg0 : Mm := ⟨0, 0, 0, 0, 0, 0, [], 0, false, 0, zeroMe⟩
def sayR (s : Ms) (m : Mm) : Ms := { s with out := s.out ++ [{ m with src := s.r.node, term := s.r.term }] }
def folR (s : Ms) (t : Nat) : Ms := { s with r := { s.r with term := t, vote := 0, role := 0, leads := 0, votes := [], peers := [] } }
def wonR (v l : List Int) : Bool := decide (v.length < 2 * cnt v l)
def pr (p : Mp) : Int × Int × Nat := (p.node, (p.next : Int), p.mat)
/-- It commits. -/
def comR (s : Ms) : Ms :=
  let c := comM (votR s.r) (s.r.peers.map pr)
  if s.r.commit < c ∧ termM s.r.base s.r.log c = some s.r.term then { s with r := { s.r with commit := c } } else s
/-- What Slice picks. -/
def pickM (l : List Me) (x n : Nat) : List Me := (l.filter fun e => decide (x ≤ e.idx)).take n
def sliceM (b : Me) (l : List Me) (x n : Nat) : List Me := if b.idx < x then pickM l x n else []
/-- A peer is told. -/
def tellR (s : Ms) (p : Mp) : Ms :=
  if p.next ≤ s.r.base.idx then sayR s { msg0 with kind := 5, dst := p.node, index := s.r.base.idx, prev := s.r.base.term, commit := s.r.commit, snap := s.r.base }
  else sayR s { msg0 with kind := 3, dst := p.node, index := p.next - 1, prev := (termM s.r.base s.r.log (p.next - 1)).getD 0, ents := sliceM s.r.base s.r.log p.next 16, commit := s.r.commit }
def tellAllR (s : Ms) : Ms := s.r.peers.foldl (fun a p => if p.node = a.r.node then a else tellR a p) s
/-- The peers of the voters. -/
def peerOf (r : Mr) (e : Nat) (n : Int) : Mp :=
  if n = r.node then ⟨r.node, e + 1, e⟩ else r.peers.foldl (fun a p => if p.node = n then p else a) ⟨n, e, 0⟩
def settleR (s : Ms) : Ms := tellAllR (comR { s with r := { s.r with peers := (votR s.r).map (peerOf s.r (endI s.r)) } })
/-- It leads, if there is room. -/
def leadR (s : Ms) : Ms :=
  let a := appM s.r.base s.r.log s.r.term 0 []
  if a.1 = 0 then settleR { s with r := { s.r with base := a.2.1, log := a.2.2, role := 2, leads := s.r.node, votes := [], elapsed := 0, peers := [] } } else s
/-- It campaigns. -/
def askR (s : Ms) : Ms :=
  let f := folR s (s.r.term + 1)
  let a : Ms := { f with r := { f.r with vote := f.r.node, role := 1, elapsed := 0, votes := [f.r.node] } }
  if wonR (votR a.r) a.r.votes then leadR a
  else (votR a.r).foldl (fun b n => if n = b.r.node then b else sayR b { msg0 with kind := 1, dst := n, index := endI a.r, prev := endT a.r }) a
/-- Time passes. -/
def tickR (r : Mr) : Ms :=
  let s : Ms := ⟨{ r with elapsed := if r.elapsed < 1000 then r.elapsed + 1 else r.elapsed }, []⟩
  if r.role = 2 then (if 2 ≤ s.r.elapsed then tellAllR { s with r := { s.r with elapsed := 0 } } else s)
  else if 10 + 2 * r.node ≤ s.r.elapsed ∧ r.term < 4611686018427387904 ∧ r.node ∈ votR r then askR s else s
/-- A state that tells nothing. -/
def zeroR : Mr := ⟨0, 0, 0, zeroMe, [], 0, 0, 0, 0, [], []⟩
def propR (r : Mr) (k : Int) (d : List Nat) : Ms × Nat × Int :=
  if r.role = 2 then
    let a := appM r.base r.log r.term k d
    if a.1 = 1 ∨ k = 0 then (⟨zeroR, []⟩, 0, 1)
    else if k = 2 ∧ ((termM r.base r.log r.commit).getD 0 ≠ r.term ∨ ∃ e ∈ r.log, e.kind = 2 ∧ r.commit < e.idx) then (⟨zeroR, []⟩, 0, 9)
    else if k = 2 ∧ (1 : Int) < ((nodesI d).length : Int) + ((votR r).length : Int) - 2 * (cnt (nodesI d) (votR r) : Nat) then (⟨zeroR, []⟩, 0, 1)
    else if a.1 = 0 then
      (settleR ⟨{ r with base := a.2.1, log := a.2.2 }, []⟩, (lastM a.2.1 a.2.2).1, 0)
    else (⟨zeroR, []⟩, 0, a.1)
  else (⟨zeroR, []⟩, 0, 4)
def compR (r : Mr) (x : Nat) : Mr × Int :=
  if r.commit < x ∨ x ≤ r.base.idx then (zeroR, 7) else ({ r with base := (compM r.base r.log x).2.1, log := (compM r.base r.log x).2.2 }, 0)
end RaftMath

