import Derived.Test.YtncoandnelgkeaaGreatHb15
/- What the results are made of: plain mathematics. -/
namespace RlogMath
open QuorumMath
/-- Numbers and bytes within their kinds. -/
def OkM (e : Me) : Prop := e.idx < 18446744073709551616 ∧ e.term < 18446744073709551616 ∧ (∀ c ∈ e.data, c < 256) ∧ e.data.length ≤ 1000000000
theorem zero_okM : OkM zeroMe := ⟨by decide, by decide, by decide, by decide⟩
theorem app_okM {b : Me} {l : List Me} {t : Nat} {k : Int} {d : List Nat} (hb : OkM b) (hl : ∀ e ∈ l, OkM e) (ht : t < 18446744073709551616) (hd : ∀ c ∈ d, c < 256) (hdl : d.length ≤ 1000000000) : OkM (appM b l t k d).2.1 ∧ (∀ e ∈ (appM b l t k d).2.2, OkM e) ∧ (appM b l t k d).2.2.length ≤ l.length + 1 := by
  have hz : OkM zeroMe ∧ (∀ e ∈ ([] : List Me), OkM e) ∧ ([] : List Me).length ≤ l.length + 1 := ⟨zero_okM, by simp, by simp⟩
  unfold appM
  split
  · split
    · exact hz
    · rename_i h1 h2
      refine ⟨hb, fun e he => ?_, by simp⟩
      rw [List.mem_append, List.mem_singleton] at he
      rcases he with he | rfl
      · exact hl e he
      · exact ⟨show (lastM b l).1 + 1 < _ by omega, ht, hd, hdl⟩
  · exact hz
end RlogMath
namespace Go.Proofs.YtncoandnelgkeaaGreat
open RlogMath
/-- Entries that say so. -/
theorem okz_of {zs : List Ez} {l : List Me} (h : mes zs = l) (hl : ∀ e ∈ l, OkM e) : ∀ z ∈ zs, EzOk z ∧ z.1.data.length ≤ 1000000000 := fun z hz => by
  have := hl z.1 (by rw [← h]; exact List.mem_map.2 ⟨z, hz, rfl⟩)
  exact ⟨⟨this.1, this.2.1, this.2.2.1⟩, this.2.2.2⟩
theorem mes_okM {zs : List Ez} (h1 : ∀ z ∈ zs, EzOk z) (h2 : ∀ z ∈ zs, z.1.data.length ≤ 1000000000) : ∀ e ∈ mes zs, OkM e := fun e he => by
  obtain ⟨z, hz, rfl⟩ := List.mem_map.1 he
  exact ⟨(h1 z hz).1, (h1 z hz).2.1, (h1 z hz).2.2, h2 z hz⟩
end Go.Proofs.YtncoandnelgkeaaGreat

/- One group's consensus, step by step: the document's own answers as plain mathematics. -/
namespace RaftMath
open QuorumMath RlogMath

/-- A peer: a node, the next index, what it has. -/
structure Mp where
  node : Int
  next : Nat
  mat : Nat
/-- A state. -/
structure Mr where
  node : Int
  term : Nat
  vote : Int
  base : Me
  log : List Me
  commit : Nat
  role : Int
  leads : Int
  elapsed : Int
  votes : List Int
  peers : List Mp
/-- A message. -/
structure Mm where
  kind : Int
  src : Int
  dst : Int
  term : Nat
  index : Nat
  prev : Nat
  ents : List Me
  commit : Nat
  ok : Bool
  mat : Nat
  snap : Me
/-- A state that turns, and what it says. -/
structure Ms where
  r : Mr
  out : List Mm

/-- The last index and term; the voters. -/
def endI (r : Mr) : Nat := (lastM r.base r.log).1
def endT (r : Mr) : Nat := (lastM r.base r.log).2
def votR (r : Mr) : List Int := votM r.base r.log
def peerB (e : Nat) (p : Mp) : Bool := decide (p.mat < p.next) && decide (p.next ≤ e + 1)
def roleB (r : Mr) : Bool :=
  if r.role = 0 then decide (r.votes = []) && decide (r.peers.length = 0)
  else if r.role = 1 then decide (r.peers.length = 0) && (decide (r.votes = []) || votB r.votes)
  else if r.role = 2 then (r.peers.all fun p => peerB (endI r) p) && decide (r.votes = []) && decide ((r.peers.map fun p => p.node) = votR r)
  else false
/-- May a state be? -/
def mayR (r : Mr) : Bool :=
  nodeB r.node && decide (r.term ≤ 4611686018427387904) && decide (0 ≤ r.vote) && decide (r.vote ≤ 7) && decide (0 ≤ r.leads) && decide (r.leads ≤ 7) && decide (0 ≤ r.elapsed) && decide (r.elapsed ≤ 1000)
    && mayB r.base r.log && decide (endT r ≤ r.term) && decide (r.base.idx ≤ r.commit) && decide (r.commit ≤ endI r) && roleB r
/-- May a message be? -/
def mayG (m : Mm) : Bool :=
  decide (1 ≤ m.kind) && decide (m.kind < 6) && nodeB m.src && nodeB m.dst && !decide (m.src = m.dst) && decide (1 ≤ m.term) && decide (m.term ≤ 4611686018427387904)
    && decide (m.ents.length ≤ 16) && decide (m.index ≤ 4611686018427387904) && decide (m.mat ≤ 4611686018427387904) && decide (m.commit ≤ 4611686018427387904) && behB m.index m.prev m.ents
    && (m.ents.all fun e => decide (e.term ≤ m.term)) && !(!decide (m.kind = 1) && decide (m.term < m.prev)) && decide (m.snap.term ≤ m.term)
    && (if m.kind = 5 then mayB m.snap [] else decide (m.snap.idx = 0 ∧ m.snap.term = 0 ∧ m.snap.kind = 0 ∧ m.snap.data = []))

/-- Nothing is said yet of a message. -/
def msg0 : Mm := ⟨0, 0, 0, 0, 0, 0, [], 0, false, 0, zeroMe⟩
def sayR (s : Ms) (m : Mm) : Ms := { s with out := s.out ++ [{ m with src := s.r.node, term := s.r.term }] }
def folR (s : Ms) (t : Nat) : Ms := { s with r := { s.r with term := t, vote := 0, role := 0, leads := 0, votes := [], peers := [] } }
def wonR (v l : List Int) : Bool := decide (v.length < 2 * cnt v l)
def pr (p : Mp) : Int × Int × Nat := (p.node, (p.next : Int), p.mat)
/-- It commits. -/
def comR (s : Ms) : Ms :=
  let c := comM (votR s.r) (s.r.peers.map pr)
  if s.r.commit < c ∧ termM s.r.base s.r.log c = some s.r.term then { s with r := { s.r with commit := c } } else s
/-- What Slice picks. -/
def pickM (l : List Me) (x n : Nat) : List Me := (l.filter fun e => decide (x ≤ e.idx)).take n
def sliceM (b : Me) (l : List Me) (x n : Nat) : List Me := if b.idx < x then pickM l x n else []
/-- A peer is told. -/
def tellR (s : Ms) (p : Mp) : Ms :=
  if p.next ≤ s.r.base.idx then sayR s { msg0 with kind := 5, dst := p.node, index := s.r.base.idx, prev := s.r.base.term, commit := s.r.commit, snap := s.r.base }
  else sayR s { msg0 with kind := 3, dst := p.node, index := p.next - 1, prev := (termM s.r.base s.r.log (p.next - 1)).getD 0, ents := sliceM s.r.base s.r.log p.next 16, commit := s.r.commit }
def tellAllR (s : Ms) : Ms := s.r.peers.foldl (fun a p => if p.node = a.r.node then a else tellR a p) s
/-- The peers of the voters. -/
def peerOf (r : Mr) (e : Nat) (n : Int) : Mp :=
  if n = r.node then ⟨r.node, e + 1, e⟩ else r.peers.foldl (fun a p => if p.node = n then p else a) ⟨n, e, 0⟩
def settleR (s : Ms) : Ms := tellAllR (comR { s with r := { s.r with peers := (votR s.r).map (peerOf s.r (endI s.r)) } })
/-- It leads, if there is room. -/
def leadR (s : Ms) : Ms :=
  let a := appM s.r.base s.r.log s.r.term 0 []
  if a.1 = 0 then settleR { s with r := { s.r with base := a.2.1, log := a.2.2, role := 2, leads := s.r.node, votes := [], elapsed := 0, peers := [] } } else s
/-- It campaigns. -/
def askR (s : Ms) : Ms :=
  let f := folR s (s.r.term + 1)
  let a : Ms := { f with r := { f.r with vote := f.r.node, role := 1, elapsed := 0, votes := [f.r.node] } }
  if wonR (votR a.r) a.r.votes then leadR a
  else (votR a.r).foldl (fun b n => if n = b.r.node then b else sayR b { msg0 with kind := 1, dst := n, index := endI a.r, prev := endT a.r }) a
/-- Time passes. -/
def tickR (r : Mr) : Ms :=
  let s : Ms := ⟨{ r with elapsed := if r.elapsed < 1000 then r.elapsed + 1 else r.elapsed }, []⟩
  if r.role = 2 then (if 2 ≤ s.r.elapsed then tellAllR { s with r := { s.r with elapsed := 0 } } else s)
  else if 10 + 2 * r.node ≤ s.r.elapsed ∧ r.term < 4611686018427387904 ∧ r.node ∈ votR r then askR s else s
/-- A state that tells nothing. -/
def zeroR : Mr := ⟨0, 0, 0, zeroMe, [], 0, 0, 0, 0, [], []⟩
def restR (r : Mr) : Mr := ⟨r.node, r.term, r.vote, r.base, r.log, r.commit, 0, 0, 0, [], []⟩
end RaftMath

