import Derived.Test.YtncoandnelgkeaaGreatHc15
/- What the steps leave of a state: plain mathematics. -/
namespace RaftMath
open QuorumMath RlogMath

theorem say_len (s : Ms) (m : Mm) : (sayR s m).out.length = s.out.length + 1 := by simp [sayR]
theorem tell_r (s : Ms) (p : Mp) : (tellR s p).r = s.r := by unfold tellR; split <;> rfl
theorem tell_len (s : Ms) (p : Mp) : (tellR s p).out.length = s.out.length + 1 := by unfold tellR; split <;> exact say_len _ _
/-- One peer of many is told. -/
def tell1 (a : Ms) (p : Mp) : Ms := if p.node = a.r.node then a else tellR a p
theorem tell1_r (a : Ms) (p : Mp) : (tell1 a p).r = a.r := by
  unfold tell1
  split
  · rfl
  · exact tell_r _ _
theorem tell1_len (a : Ms) (p : Mp) : (tell1 a p).out.length ≤ a.out.length + 1 := by
  unfold tell1
  split
  · omega
  · rw [tell_len]; omega
theorem tells_r : ∀ (ps : List Mp) (s : Ms), (ps.foldl tell1 s).r = s.r
  | [], s => rfl
  | p :: ps, s => by rw [List.foldl_cons, tells_r ps, tell1_r]
theorem tells_len : ∀ (ps : List Mp) (s : Ms), (ps.foldl tell1 s).out.length ≤ s.out.length + ps.length
  | [], s => by simp
  | p :: ps, s => by
    rw [List.foldl_cons, List.length_cons]
    have h1 := tells_len ps (tell1 s p)
    have h2 := tell1_len s p
    omega
theorem tellAll_eq (s : Ms) : tellAllR s = s.r.peers.foldl tell1 s := rfl
theorem fold_take {α β : Type} (f : β → α → β) {l : List α} {i : Nat} {x : α} (h : l[i]? = some x) (s : β) : (l.take (i + 1)).foldl f s = f ((l.take i).foldl f s) x := by
  obtain ⟨h1, rfl⟩ := List.getElem?_eq_some_iff.1 h
  rw [List.take_succ_eq_append_getElem h1, List.foldl_append]
  rfl
theorem com_out (s : Ms) : (comR s).out = s.out := by unfold comR; dsimp only; split <;> rfl
theorem com_log (s : Ms) : (comR s).r.log = s.r.log ∧ (comR s).r.base = s.r.base ∧ (comR s).r.peers = s.r.peers ∧ (comR s).r.node = s.r.node := by unfold comR; dsimp only; split <;> exact ⟨rfl, rfl, rfl, rfl⟩
/-- A peer's number is looked for among peers (the last one counts). -/
def pickP (n : Int) (a : Mp) (p : Mp) : Mp := if p.node = n then p else a
theorem peerOf_eq (r : Mr) (e : Nat) (n : Int) : peerOf r e n = if n = r.node then ⟨r.node, e + 1, e⟩ else r.peers.foldl (pickP n) ⟨n, e, 0⟩ := rfl
theorem picks_in (n : Int) : ∀ (ps : List Mp) (a : Mp), ps.foldl (pickP n) a = a ∨ ps.foldl (pickP n) a ∈ ps
  | [], a => .inl rfl
  | p :: ps, a => by
    rw [List.foldl_cons]
    rcases picks_in n ps (pickP n a p) with h | h
    · rw [h]
      unfold pickP
      split
      · exact .inr List.mem_cons_self
      · exact .inl rfl
    · exact .inr (List.mem_cons_of_mem _ h)
theorem peerOf_next {r : Mr} {e : Nat} {n : Int} (he : e + 1 < 18446744073709551616) (h : ∀ p ∈ r.peers, p.next < 18446744073709551616) : (peerOf r e n).next < 18446744073709551616 := by
  rw [peerOf_eq]
  split
  · exact he
  · rcases picks_in n r.peers ⟨n, e, 0⟩ with h1 | h1
    · rw [h1]; show e < _; omega
    · exact h _ h1
/-- Another voter is asked. -/
def ask1 (x t : Nat) (b : Ms) (n : Int) : Ms := if n = b.r.node then b else sayR b { msg0 with kind := 1, dst := n, index := x, prev := t }
theorem ask1_r (x t : Nat) (b : Ms) (n : Int) : (ask1 x t b n).r = b.r := by unfold ask1; split <;> rfl
theorem ask1_len (x t : Nat) (b : Ms) (n : Int) : (ask1 x t b n).out.length ≤ b.out.length + 1 := by
  unfold ask1
  split
  · omega
  · rw [say_len]; omega
theorem asks_r (x t : Nat) : ∀ (l : List Int) (s : Ms), (l.foldl (ask1 x t) s).r = s.r
  | [], s => rfl
  | p :: ps, s => by rw [List.foldl_cons, asks_r x t ps, ask1_r]
theorem asks_len (x t : Nat) : ∀ (l : List Int) (s : Ms), (l.foldl (ask1 x t) s).out.length ≤ s.out.length + l.length
  | [], s => by simp
  | p :: ps, s => by
    rw [List.foldl_cons, List.length_cons]
    have h1 := asks_len x t ps (ask1 x t s p)
    have h2 := ask1_len x t s p
    omega
end RaftMath

