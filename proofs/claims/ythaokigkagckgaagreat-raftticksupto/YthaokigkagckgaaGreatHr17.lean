import Derived.Test.YthaokigkagckgaaGreatHr16
/- The law RlogTells. -/
namespace Go.Proofs.YthaokigkagckgaaGreat
open Go.RowKit QuorumMath RlogMath
set_option maxRecDepth 100000
set_option linter.unusedSimpArgs false
set_option linter.unusedVariables false

theorem keep9 {n : Nat} {w w1 w2 : World} (h : Below n w w1) (h2 : Below w1.heap.size w1 w2) (hn : n ≤ w.heap.size := by omega) : Below n w w2 := h.trans (h2.mono (Nat.le_trans hn h.size))
theorem u64_nat (x : Int) : ∃ t : Nat, IntKind.u64.wrap x = (t : Int) ∧ t < 18446744073709551616 := by
  refine ⟨(x % 18446744073709551616).toNat, ?_, ?_⟩
  · have : IntKind.u64.wrap x = x % 18446744073709551616 := rfl
    rw [this]
    omega
  · omega
theorem slice_len (b : Ez) (zs : List Ez) (x : Nat) (most : Int) : (sliceZ b zs x most).length ≤ zs.length := by
  unfold sliceZ
  split
  · exact pick_len x most zs
  · simp
theorem slice_in (b : Ez) (zs : List Ez) (x : Nat) (most : Int) : ∀ z ∈ sliceZ b zs x most, z ∈ zs := by
  unfold sliceZ
  split
  · exact pick_sub x most zs
  · simp
/-- Numbers and bytes of an entry, whatever its slice. -/
theorem ok_of {ys zs : List Ez} (h : mes ys = mes zs) (hz : ∀ z ∈ zs, EzOk z) : ∀ y ∈ ys, EzOk y := fun y hy => by
  have : y.1 ∈ mes ys := List.mem_map.2 ⟨y, hy, rfl⟩
  rw [h] at this
  obtain ⟨z, hz1, e⟩ := List.mem_map.1 this
  have := hz z hz1
  unfold EzOk at *
  rw [← e]
  exact this

end Go.Proofs.YthaokigkagckgaaGreat

/- What the results are made of: plain mathematics. -/
namespace RlogMath
open QuorumMath
/-- Numbers and bytes within their kinds. -/
def OkM (e : Me) : Prop := e.idx < 18446744073709551616 ∧ e.term < 18446744073709551616 ∧ (∀ c ∈ e.data, c < 256) ∧ e.data.length ≤ 1000000000
theorem zero_okM : OkM zeroMe := ⟨by decide, by decide, by decide, by decide⟩
theorem votF_bytes : ∀ (l : List Me) (d : List Nat), (∀ e ∈ l, OkM e) → (∀ c ∈ d, c < 256) → ∀ c ∈ votF d l, c < 256
  | [], d, _, h => h
  | e :: l, d, hl, h => by
    rw [votF]
    refine votF_bytes l _ (fun y hy => hl y (List.mem_cons_of_mem _ hy)) ?_
    split
    · exact (hl e List.mem_cons_self).2.2.1
    · exact h
theorem term_lt {b : Me} {l : List Me} {x t : Nat} (hb : OkM b) (hl : ∀ e ∈ l, OkM e) (h : termM b l x = some t) : t < 18446744073709551616 := by
  unfold termM at h
  split at h
  · cases h; exact hb.2.1
  · obtain ⟨k, e, h1, h2, rfl⟩ := termF_in h
    exact (hl e (List.mem_of_getElem? h1)).2.1
theorem comp_okM {b : Me} {l : List Me} {x : Nat} (hb : OkM b) (hl : ∀ e ∈ l, OkM e) (hx : x < 18446744073709551616) : OkM (compM b l x).2.1 ∧ (∀ e ∈ (compM b l x).2.2, OkM e) ∧ (compM b l x).2.2.length ≤ l.length := by
  have hz : OkM zeroMe ∧ (∀ e ∈ ([] : List Me), OkM e) ∧ ([] : List Me).length ≤ l.length := ⟨zero_okM, by simp, by simp⟩
  by_cases h : mayB b l = true
  · by_cases h2 : x ≤ b.idx
    · rw [comp_old h h2]; exact hz
    · cases ht : termM b l x with
      | none => rw [comp_gap h h2 ht]; exact hz
      | some t =>
        rw [comp_place h h2 ht]
        refine ⟨⟨hx, term_lt hb hl ht, votF_bytes _ _ (fun e he => hl e (List.mem_of_mem_take he)) hb.2.2.1, votF_len _ _ (fun e he => (hl e (List.mem_of_mem_take he)).2.2.2) hb.2.2.2⟩, fun e he => hl e (List.mem_of_mem_drop he), ?_⟩
        show (l.drop _).length ≤ _
        rw [List.length_drop]
        omega
  · rw [comp_no (by simpa using h)]; exact hz
theorem votF_app : ∀ (l m : List Me) (d : List Nat), votF d (l ++ m) = votF (votF d l) m
  | [], m, d => rfl
  | e :: l, m, d => by
    show votF (if e.kind = 2 then e.data else d) (l ++ m) = votF (votF (if e.kind = 2 then e.data else d) l) m
    exact votF_app l m _
/-- Behind a snapshot the voters and the last entry stay. -/
theorem comp_stays {b : Me} {l : List Me} {x : Nat} (h0 : (compM b l x).1 = 0) : lastM (compM b l x).2.1 (compM b l x).2.2 = lastM b l ∧ votM (compM b l x).2.1 (compM b l x).2.2 = votM b l := by
  by_cases h : mayB b l = true
  · by_cases h2 : x ≤ b.idx
    · rw [comp_old h h2] at h0; exact absurd h0 (by decide)
    · cases ht : termM b l x with
      | none => rw [comp_gap h h2 ht] at h0; exact absurd h0 (by decide)
      | some t =>
        rw [comp_place h h2 ht]
        obtain ⟨p1, p2⟩ := term_place h ht
        obtain ⟨n, hn⟩ : ∃ n, n = x - b.idx := ⟨_, rfl⟩
        rw [← hn] at p2 ⊢
        refine ⟨?_, ?_⟩
        · show lastM ⟨x, t, 0, _⟩ (l.drop n) = lastM b l
          by_cases hd : n = l.length
          · have e1 : l.drop n = [] := by rw [hd]; exact List.drop_length
            have hpos : 0 < l.length := by omega
            obtain ⟨e, he⟩ : ∃ e, l.getLast? = some e := by
              cases hl : l.getLast? with
              | none => rw [List.getLast?_eq_none_iff] at hl; rw [hl] at hpos; simp at hpos
              | some e => exact ⟨e, rfl⟩
            have he2 : l[l.length - 1]? = some e := by rw [← List.getLast?_eq_getElem?]; exact he
            have hidx := may_num h he2
            have hte : e.term = t := by
              unfold termM at ht
              rw [if_neg (by omega)] at ht
              obtain ⟨k, e', h1, h3, h4⟩ := termF_in ht
              have h5 := may_num h h1
              have h6 := (List.getElem?_eq_some_iff.1 h1).1
              have h7 : k = l.length - 1 := by omega
              rw [h7, he2] at h1
              cases h1
              exact h4
            unfold lastM
            rw [e1, he]
            show (x, t) = (e.idx, e.term)
            rw [hte, hidx, show b.idx + 1 + (l.length - 1) = x by omega]
          · have hg : (l.drop n).getLast? = l.getLast? := by
              rw [List.getLast?_eq_getElem?, List.getLast?_eq_getElem?, List.getElem?_drop, List.length_drop]
              congr 1
              omega
            unfold lastM
            rw [hg]
            cases hl : l.getLast? with
            | none => rw [List.getLast?_eq_none_iff] at hl; rw [hl] at p2 hd; simp at p2 hd; omega
            | some e => rfl
        · show nodesI (votF (votF b.data (l.take n)) (l.drop n)) = nodesI (votF b.data l)
          rw [← votF_app, List.take_append_drop]
  · rw [comp_no (by simpa using h)] at h0; exact absurd h0 (by decide)
theorem app_okM {b : Me} {l : List Me} {t : Nat} {k : Int} {d : List Nat} (hb : OkM b) (hl : ∀ e ∈ l, OkM e) (ht : t < 18446744073709551616) (hd : ∀ c ∈ d, c < 256) (hdl : d.length ≤ 1000000000) : OkM (appM b l t k d).2.1 ∧ (∀ e ∈ (appM b l t k d).2.2, OkM e) ∧ (appM b l t k d).2.2.length ≤ l.length + 1 := by
  have hz : OkM zeroMe ∧ (∀ e ∈ ([] : List Me), OkM e) ∧ ([] : List Me).length ≤ l.length + 1 := ⟨zero_okM, by simp, by simp⟩
  unfold appM
  split
  · split
    · exact hz
    · rename_i h1 h2
      refine ⟨hb, fun e he => ?_, by simp⟩
      rw [List.mem_append, List.mem_singleton] at he
      rcases he with he | rfl
      · exact hl e he
      · exact ⟨show (lastM b l).1 + 1 < _ by omega, ht, hd, hdl⟩
  · exact hz
theorem merge_okM {b : Me} {l : List Me} {x t : Nat} {es : List Me} (hb : OkM b) (hl : ∀ e ∈ l, OkM e) (he : ∀ e ∈ es, OkM e) : OkM (mergeM b l x t es).2.1 ∧ (∀ e ∈ (mergeM b l x t es).2.2.1, OkM e) ∧ (mergeM b l x t es).2.2.1.length ≤ l.length + es.length := by
  have hz : OkM zeroMe ∧ (∀ e ∈ ([] : List Me), OkM e) ∧ ([] : List Me).length ≤ l.length + es.length := ⟨zero_okM, by simp, by simp⟩
  unfold mergeM
  split
  · split
    · exact hz
    · split
      · split
        · exact ⟨hb, hl, by simp⟩
        · split
          · exact hz
          · refine ⟨hb, fun e h => ?_, ?_⟩
            · rw [List.mem_append] at h
              rcases h with h | h
              · exact hl e (List.mem_of_mem_take h)
              · exact he e (List.mem_of_mem_drop h)
            · simp only [List.length_append, List.length_take, List.length_drop]; omega
      · exact hz
  · exact hz
end RlogMath
namespace Go.Proofs.YthaokigkagckgaaGreat
open RlogMath
/-- Entries that say so. -/
theorem okz_of {zs : List Ez} {l : List Me} (h : mes zs = l) (hl : ∀ e ∈ l, OkM e) : ∀ z ∈ zs, EzOk z ∧ z.1.data.length ≤ 1000000000 := fun z hz => by
  have := hl z.1 (by rw [← h]; exact List.mem_map.2 ⟨z, hz, rfl⟩)
  exact ⟨⟨this.1, this.2.1, this.2.2.1⟩, this.2.2.2⟩
theorem mes_okM {zs : List Ez} (h1 : ∀ z ∈ zs, EzOk z) (h2 : ∀ z ∈ zs, z.1.data.length ≤ 1000000000) : ∀ e ∈ mes zs, OkM e := fun e he => by
  obtain ⟨z, hz, rfl⟩ := List.mem_map.1 he
  exact ⟨(h1 z hz).1, (h1 z hz).2.1, (h1 z hz).2.2, h2 z hz⟩
end Go.Proofs.YthaokigkagckgaaGreat

/- One group's consensus, step by step: the document's own answers as plain mathematics. -/
namespace RaftMath
open QuorumMath RlogMath

/-- A peer: a node, the next index, what it has. -/
structure Mp where
  node : Int
  next : Nat
  mat : Nat
/-- A state. -/
structure Mr where
  node : Int
  term : Nat
  vote : Int
  base : Me
  log : List Me
  commit : Nat
  role : Int
  leads : Int
  elapsed : Int
  votes : List Int
  peers : List Mp
/-- A message. -/
structure Mm where
  kind : Int
  src : Int
  dst : Int
  term : Nat
  index : Nat
  prev : Nat
  ents : List Me
  commit : Nat
  ok : Bool
  mat : Nat
  snap : Me
/-- A state that turns, and what it says. -/
structure Ms where
  r : Mr
  out : List Mm

/-- The last index and term; the voters. -/
def endI (r : Mr) : Nat := (lastM r.base r.log).1
def endT (r : Mr) : Nat := (lastM r.base r.log).2
def votR (r : Mr) : List Int := votM r.base r.log
def peerB (e : Nat) (p : Mp) : Bool := decide (p.mat < p.next) && decide (p.next ≤ e + 1)
def roleB (r : Mr) : Bool :=
  if r.role = 0 then decide (r.votes = []) && decide (r.peers.length = 0)
  else if r.role = 1 then decide (r.peers.length = 0) && (decide (r.votes = []) || votB r.votes)
  else if r.role = 2 then (r.peers.all fun p => peerB (endI r) p) && decide (r.votes = []) && decide ((r.peers.map fun p => p.node) = votR r)
  else false
/-- May a state be? -/
def mayR (r : Mr) : Bool :=
  nodeB r.node && decide (r.term ≤ 4611686018427387904) && decide (0 ≤ r.vote) && decide (r.vote ≤ 7) && decide (0 ≤ r.leads) && decide (r.leads ≤ 7) && decide (0 ≤ r.elapsed) && decide (r.elapsed ≤ 1000)
    && mayB r.base r.log && decide (endT r ≤ r.term) && decide (r.base.idx ≤ r.commit) && decide (r.commit ≤ endI r) && roleB r
/-- May a message be? -/
def mayG (m : Mm) : Bool :=
  decide (1 ≤ m.kind) && decide (m.kind < 6) && nodeB m.src && nodeB m.dst && !decide (m.src = m.dst) && decide (1 ≤ m.term) && decide (m.term ≤ 4611686018427387904)
    && decide (m.ents.length ≤ 16) && decide (m.index ≤ 4611686018427387904) && decide (m.mat ≤ 4611686018427387904) && decide (m.commit ≤ 4611686018427387904) && behB m.index m.prev m.ents
    && (m.ents.all fun e => decide (e.term ≤ m.term)) && !(!decide (m.kind = 1) && decide (m.term < m.prev)) && decide (m.snap.term ≤ m.term)
    && (if m.kind = 5 then mayB m.snap [] else decide (m.snap.idx = 0 ∧ m.snap.term = 0 ∧ m.snap.kind = 0 ∧ m.snap.data = []))

/-- Nothing is said yet of a message. -/
def msg0 : Mm := ⟨0, 0, 0, 0, 0, 0, [], 0, false, 0, zeroMe⟩
def sayR (s : Ms) (m : Mm) : Ms := { s with out := s.out ++ [{ m with src := s.r.node, term := s.r.term }] }
def folR (s : Ms) (t : Nat) : Ms := { s with r := { s.r with term := t, vote := 0, role := 0, leads := 0, votes := [], peers := [] } }
def wonR (v l : List Int) : Bool := decide (v.length < 2 * cnt v l)
def pr (p : Mp) : Int × Int × Nat := (p.node, (p.next : Int), p.mat)
/-- It commits. -/
def comR (s : Ms) : Ms :=
  let c := comM (votR s.r) (s.r.peers.map pr)
  if s.r.commit < c ∧ termM s.r.base s.r.log c = some s.r.term then { s with r := { s.r with commit := c } } else s
/-- What Slice picks. -/
def pickM (l : List Me) (x n : Nat) : List Me := (l.filter fun e => decide (x ≤ e.idx)).take n
def sliceM (b : Me) (l : List Me) (x n : Nat) : List Me := if b.idx < x then pickM l x n else []
/-- A peer is told. -/
def tellR (s : Ms) (p : Mp) : Ms :=
  if p.next ≤ s.r.base.idx then sayR s { msg0 with kind := 5, dst := p.node, index := s.r.base.idx, prev := s.r.base.term, commit := s.r.commit, snap := s.r.base }
  else sayR s { msg0 with kind := 3, dst := p.node, index := p.next - 1, prev := (termM s.r.base s.r.log (p.next - 1)).getD 0, ents := sliceM s.r.base s.r.log p.next 16, commit := s.r.commit }
def tellAllR (s : Ms) : Ms := s.r.peers.foldl (fun a p => if p.node = a.r.node then a else tellR a p) s
/-- The peers of the voters. -/
def peerOf (r : Mr) (e : Nat) (n : Int) : Mp :=
  if n = r.node then ⟨r.node, e + 1, e⟩ else r.peers.foldl (fun a p => if p.node = n then p else a) ⟨n, e, 0⟩
def settleR (s : Ms) : Ms := tellAllR (comR { s with r := { s.r with peers := (votR s.r).map (peerOf s.r (endI s.r)) } })
/-- It leads, if there is room. -/
def leadR (s : Ms) : Ms :=
  let a := appM s.r.base s.r.log s.r.term 0 []
  if a.1 = 0 then settleR { s with r := { s.r with base := a.2.1, log := a.2.2, role := 2, leads := s.r.node, votes := [], elapsed := 0, peers := [] } } else s
/-- It campaigns. -/
def askR (s : Ms) : Ms :=
  let f := folR s (s.r.term + 1)
  let a : Ms := { f with r := { f.r with vote := f.r.node, role := 1, elapsed := 0, votes := [f.r.node] } }
  if wonR (votR a.r) a.r.votes then leadR a
  else (votR a.r).foldl (fun b n => if n = b.r.node then b else sayR b { msg0 with kind := 1, dst := n, index := endI a.r, prev := endT a.r }) a
/-- Time passes. -/
def tickR (r : Mr) : Ms :=
  let s : Ms := ⟨{ r with elapsed := if r.elapsed < 1000 then r.elapsed + 1 else r.elapsed }, []⟩
  if r.role = 2 then (if 2 ≤ s.r.elapsed then tellAllR { s with r := { s.r with elapsed := 0 } } else s)
  else if 10 + 2 * r.node ≤ s.r.elapsed ∧ r.term < 4611686018427387904 ∧ r.node ∈ votR r then askR s else s
def votedR (s : Ms) (m : Mm) : Ms :=
  if s.r.role = 1 ∧ m.ok = true ∧ m.src ∈ votR s.r then
    let l := ([1, 2, 3, 4, 5, 6, 7] : List Int).filter fun n => decide (n = m.src ∨ n ∈ s.r.votes)
    let a : Ms := { s with r := { s.r with votes := l } }
    if wonR (votR a.r) l then leadR a else a
  else s
def addR (s : Ms) (m : Mm) : Ms :=
  if m.ents.any fun e => decide (e.idx ≤ s.r.commit) && (match termM s.r.base s.r.log e.idx with | some t => !decide (t = e.term) | none => false) then s
  else
    let g := mergeM s.r.base s.r.log m.index m.prev m.ents
    if g.1 = 0 then
      sayR { s with r := { s.r with base := g.2.1, log := g.2.2.1, commit := max s.r.commit (min m.commit g.2.2.2) } } { msg0 with kind := 4, dst := m.src, ok := true, mat := g.2.2.2 }
    else if g.1 = 7 then sayR s { msg0 with kind := 4, dst := m.src, ok := true, mat := s.r.base.idx }
    else if g.1 = 12 then sayR s { msg0 with kind := 4, dst := m.src, mat := min (endI s.r) (m.index - 1) }
    else s
def snapR (s : Ms) (m : Mm) : Ms :=
  let a : Ms :=
    if s.r.commit < m.snap.idx then
      if termM s.r.base s.r.log m.snap.idx = some m.snap.term then
        { s with r := { s.r with base := (compM s.r.base s.r.log m.snap.idx).2.1, log := (compM s.r.base s.r.log m.snap.idx).2.2, commit := m.snap.idx } }
      else { s with r := { s.r with base := m.snap, log := [], commit := m.snap.idx } }
    else s
  sayR a { msg0 with kind := 4, dst := m.src, ok := true, mat := a.r.commit }
/-- Where a peer stands (the last one), if it is there. -/
def findP (l : List Mp) (n : Int) : Option Mp := l.foldl (fun a p => if p.node = n then some p else a) none
def setP (l : List Mp) (q : Mp) : List Mp := l.map fun p => if p.node = q.node then q else p
def addedR (s : Ms) (m : Mm) : Ms :=
  if s.r.role = 2 ∧ ¬ (m.ok = true ∧ endI s.r < m.mat) then
    match findP s.r.peers m.src with
    | none => s
    | some p =>
      if m.ok = true then
        let q : Mp := ⟨p.node, max p.next (max p.mat m.mat + 1), max p.mat m.mat⟩
        let a := comR { s with r := { s.r with peers := setP s.r.peers q } }
        if q.next ≤ endI s.r then tellR a q else a
      else
        let q : Mp := ⟨p.node, max (p.mat + 1) (min (m.mat + 1) (p.next - 1)), p.mat⟩
        tellR { s with r := { s.r with peers := setP s.r.peers q } } q
  else s
/-- A message. -/
def stepR (r : Mr) (m : Mm) : Ms :=
  let s0 : Ms := ⟨r, []⟩
  let s := if r.term < m.term then folR s0 m.term else s0
  if m.term < r.term then
    (if m.kind = 1 then sayR s { msg0 with kind := 2, dst := m.src } else if m.kind = 3 ∨ m.kind = 5 then sayR s { msg0 with kind := 4, dst := m.src } else s)
  else if m.kind = 1 then
    let ok := decide (s.r.role = 0) && (decide (s.r.vote = 0) || decide (s.r.vote = m.src)) && freshM s.r.base s.r.log m.index m.prev
    sayR (if ok then { s with r := { s.r with vote := m.src, elapsed := 0 } } else s) { msg0 with kind := 2, dst := m.src, ok := ok }
  else if m.kind = 2 then votedR s m
  else if m.kind = 4 then addedR s m
  else if s.r.role = 2 then s
  else
    let a : Ms := { s with r := { s.r with role := 0, votes := [], leads := m.src, elapsed := 0 } }
    if m.kind = 3 then addR a m else snapR a m
/-- A state that tells nothing. -/
def zeroR : Mr := ⟨0, 0, 0, zeroMe, [], 0, 0, 0, 0, [], []⟩
def propR (r : Mr) (k : Int) (d : List Nat) : Ms × Nat × Int :=
  if r.role = 2 then
    let a := appM r.base r.log r.term k d
    if a.1 = 1 ∨ k = 0 then (⟨zeroR, []⟩, 0, 1)
    else if k = 2 ∧ ((termM r.base r.log r.commit).getD 0 ≠ r.term ∨ ∃ e ∈ r.log, e.kind = 2 ∧ r.commit < e.idx) then (⟨zeroR, []⟩, 0, 9)
    else if k = 2 ∧ (1 : Int) < ((nodesI d).length : Int) + ((votR r).length : Int) - 2 * (cnt (nodesI d) (votR r) : Nat) then (⟨zeroR, []⟩, 0, 1)
    else if a.1 = 0 then
      (settleR ⟨{ r with base := a.2.1, log := a.2.2 }, []⟩, (lastM a.2.1 a.2.2).1, 0)
    else (⟨zeroR, []⟩, 0, a.1)
  else (⟨zeroR, []⟩, 0, 4)
def compR (r : Mr) (x : Nat) : Mr × Int :=
  if r.commit < x ∨ x ≤ r.base.idx then (zeroR, 7) else ({ r with base := (compM r.base r.log x).2.1, log := (compM r.base r.log x).2.2 }, 0)
def restR (r : Mr) : Mr := ⟨r.node, r.term, r.vote, r.base, r.log, r.commit, 0, 0, 0, [], []⟩
end RaftMath

