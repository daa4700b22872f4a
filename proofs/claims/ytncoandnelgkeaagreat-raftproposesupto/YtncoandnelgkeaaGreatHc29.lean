import Derived.Test.YtncoandnelgkeaaGreatHc28
/- Some peers are told: plain mathematics. -/
namespace RaftMath
open QuorumMath RlogMath
/-- Those peers are told that it is to. -/
def tellW (P : Int → Bool) (a : Ms) (p : Mp) : Ms := if P p.node = true then tellR a p else a
theorem tellW_r (P : Int → Bool) (a : Ms) (p : Mp) : (tellW P a p).r = a.r := by
  unfold tellW
  split
  · exact tell_r _ _
  · rfl
theorem tellW_len (P : Int → Bool) (a : Ms) (p : Mp) : (tellW P a p).out.length ≤ a.out.length + 1 := by
  unfold tellW
  split
  · rw [tell_len]; omega
  · omega
theorem tellsW_r (P : Int → Bool) : ∀ (ps : List Mp) (s : Ms), (ps.foldl (tellW P) s).r = s.r
  | [], s => rfl
  | p :: ps, s => by rw [List.foldl_cons, tellsW_r P ps, tellW_r]
theorem tellsW_len (P : Int → Bool) : ∀ (ps : List Mp) (s : Ms), (ps.foldl (tellW P) s).out.length ≤ s.out.length + ps.length
  | [], s => by simp
  | p :: ps, s => by
    rw [List.foldl_cons, List.length_cons]
    have h1 := tellsW_len P ps (tellW P s p)
    have h2 := tellW_len P s p
    omega
theorem tellsW_all (nd : Int) : ∀ (ps : List Mp) (s : Ms), s.r.node = nd → ps.foldl (tellW fun x => x != nd) s = ps.foldl tell1 s
  | [], s, _ => rfl
  | p :: ps, s, h => by
    rw [List.foldl_cons, List.foldl_cons]
    have e : tellW (fun x => x != nd) s p = tell1 s p := by
      unfold tellW tell1
      rw [h]
      by_cases hp : p.node = nd
      · rw [if_pos hp, if_neg (by simpa using hp)]
      · rw [if_neg hp, if_pos (by simpa using hp)]
    rw [e]
    exact tellsW_all nd ps _ (by rw [tell1_r]; exact h)
end RaftMath

/- Where a peer stands: plain mathematics. -/
namespace RaftMath
open QuorumMath RlogMath

/-- The first peer of that number. -/
def ixP (ps : List Mp) (x : Int) : Option Nat := ps.findIdx? fun p => decide (p.node = x)
def ixV (o : Option Nat) : Int := match o with | some i => (i : Int) | none => -1
theorem ix_some {ps : List Mp} {x : Int} {i : Nat} (h : ixP ps x = some i) : ∃ p, ps[i]? = some p ∧ p.node = x ∧ ∀ j q, j < i → ps[j]? = some q → q.node ≠ x := by
  unfold ixP at h
  rw [List.findIdx?_eq_some_iff_getElem] at h
  obtain ⟨h1, h2, h3⟩ := h
  refine ⟨ps[i], List.getElem?_eq_getElem h1, by simpa using h2, fun j q hj hq => ?_⟩
  obtain ⟨h4, rfl⟩ := List.getElem?_eq_some_iff.1 hq
  simpa using h3 j hj
theorem ix_none {ps : List Mp} {x : Int} (h : ixP ps x = none) : ∀ p ∈ ps, p.node ≠ x := by
  unfold ixP at h
  rw [List.findIdx?_eq_none_iff] at h
  intro p hp
  simpa using h p hp
theorem ix_at {ps : List Mp} {x : Int} {k : Nat} {p : Mp} (hp : ps[k]? = some p) (hn : ∀ j q, j < k → ps[j]? = some q → q.node ≠ x) (h : p.node = x) : ixP ps x = some k := by
  unfold ixP
  rw [List.findIdx?_eq_some_iff_getElem]
  obtain ⟨h1, rfl⟩ := List.getElem?_eq_some_iff.1 hp
  exact ⟨h1, by simpa using h, fun j hj => by simpa using hn j _ hj (List.getElem?_eq_getElem (by omega))⟩
theorem ix_end {ps : List Mp} {x : Int} (hn : ∀ j q, j < ps.length → ps[j]? = some q → q.node ≠ x) : ixP ps x = none := by
  unfold ixP
  rw [List.findIdx?_eq_none_iff]
  intro p hp
  obtain ⟨j, hj⟩ := List.getElem?_of_mem hp
  simpa using hn j p (List.getElem?_eq_some_iff.1 hj).1 hj
theorem picks_none (x : Int) : ∀ (ps : List Mp) (a : Mp), (∀ p ∈ ps, p.node ≠ x) → ps.foldl (pickP x) a = a
  | [], a, _ => rfl
  | p :: ps, a, h => by
    rw [List.foldl_cons]
    have e : pickP x a p = a := by unfold pickP; rw [if_neg (h p List.mem_cons_self)]
    rw [e]
    exact picks_none x ps a fun q hq => h q (List.mem_cons_of_mem _ hq)
theorem picks_one (x : Int) : ∀ (ps : List Mp) (a : Mp) (i : Nat) (p : Mp), (ps.map fun p => p.node).Pairwise (· < ·) → ps[i]? = some p → p.node = x → ps.foldl (pickP x) a = p
  | [], a, i, p, _, h, _ => by simp at h
  | q :: ps, a, 0, p, hw, h, hx => by
    simp only [List.getElem?_cons_zero, Option.some.injEq] at h
    subst h
    rw [List.foldl_cons]
    have e : pickP x a q = q := by unfold pickP; rw [if_pos hx]
    rw [e]
    refine picks_none x ps q fun y hy => ?_
    rw [List.map_cons, List.pairwise_cons] at hw
    have := hw.1 y.node (List.mem_map.2 ⟨y, hy, rfl⟩)
    omega
  | q :: ps, a, i + 1, p, hw, h, hx => by
    rw [List.foldl_cons]
    rw [List.map_cons, List.pairwise_cons] at hw
    exact picks_one x ps _ i p hw.2 (by simpa using h) hx
theorem peerOf_some {r : Mr} {e : Nat} {x : Int} {i : Nat} {p : Mp} (hw : (r.peers.map fun p => p.node).Pairwise (· < ·)) (h : r.peers[i]? = some p) (hx : p.node = x) (hn : x ≠ r.node) : peerOf r e x = p := by
  rw [peerOf_eq, if_neg hn]
  exact picks_one x _ _ i p hw h hx
theorem peerOf_none {r : Mr} {e : Nat} {x : Int} (h : ∀ p ∈ r.peers, p.node ≠ x) (hn : x ≠ r.node) : peerOf r e x = ⟨x, e, 0⟩ := by
  rw [peerOf_eq, if_neg hn]
  exact picks_none x _ _ h
theorem peerOf_self {r : Mr} {e : Nat} {x : Int} (hn : x = r.node) : peerOf r e x = ⟨x, e + 1, e⟩ := by
  rw [peerOf_eq, if_pos hn, hn]
end RaftMath

