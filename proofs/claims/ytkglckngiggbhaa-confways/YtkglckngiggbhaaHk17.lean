import Derived.Test.YtkglckngiggbhaaHk11
import Derived.Test.YtkglckngiggbhaaHk16
/- Ways as they lie in memory: slices of slices of numbers. -/
namespace Go.Proofs.Ytkglckngiggbhaa
open Go.RowKit QuorumMath
set_option maxRecDepth 100000
set_option linter.unusedSimpArgs false
set_option linter.unusedVariables false

/-- Slices as elements. -/
abbrev Sl := Option Addr × Nat × Nat
def slE : El Sl := ⟨fun s => [.slice s.1 s.2.1 s.2.2], 1, fun _ => rfl, fun x u hu => by
  simp only [List.mem_singleton] at hu
  subst hu
  rfl, by decide⟩
def sv (s : Sl) : Value := .slice s.1 s.2.1 s.2.2
theorem rds_at {w : World} {ao : Option Addr} {n cap : Nat} {xs : List Sl} (h : Rd slE w (.slice ao n cap) xs) {i : Nat} {x : Sl} (hx : xs[i]? = some x) : ∃ b off, ao = some ⟨b, off, none⟩ ∧ ∀ W, Below w.heap.size w W → W.cell? ⟨b, off + i, none⟩ = some (.slice x.1 x.2.1 x.2.2) := by
  obtain ⟨ao', cap', e, _, _, h2⟩ := h
  cases e
  obtain ⟨b, off, r1, r2⟩ := h2 i x 0 _ hx rfl
  rw [show i * slE.k + 0 = i from Nat.mul_one i] at r2
  exact ⟨b, off, r1, fun W hW => (hW.cell (p := ⟨b, off + i, none⟩) (World.block_lt_of_cell? w _ r2)).trans r2⟩
theorem infoSl : (Try.prog.info? 22).map (fun i => (i.zero, i.size, i.bytes)) = some (some (.slice none 0 0), 1, 24) := by kernel_rfl
theorem push_sl {w : World} {v : Value} {xs : List Sl} (s : Sl) (h : Rk slE w 22 v xs) (hlen : xs.length ≤ 10000000000) :
    ∀ ty, ∃ v' w', (Builtin.append_ #[23, 23] ty #[v, .slice (some ⟨w.heap.size, 0, none⟩) 1 1]).run Try.prog (w.alloc (.cells #[.slice s.1 s.2.1 s.2.2] 22)) = .ok v' w' ∧ PushT slE 22 w v (xs ++ [s]) v' w' :=
  push_el slE Try.underlying23 infoSl rfl (by decide) s h hlen
/-- Numbers that lie below n, or in a row of their own. -/
def InR (n : Nat) (w : World) (v : Value) (l : List Int) : Prop := Rk intE w 3 v l ∨ ∀ W, Below n w W → Rd intE W v l
theorem InR.rd {n : Nat} {w : World} {v : Value} {l : List Int} (h : InR n w v l) : Rd intE w v l := by
  rcases h with h | h
  · exact h.rd
  · exact h w (Below.refl _ _)
theorem InR.below {n : Nat} {w w' : World} {v : Value} {l : List Int} (h : InR n w v l) (hn : n ≤ w.heap.size) (hb : Below w.heap.size w w') : InR n w' v l := by
  rcases h with h | h
  · exact .inl (h.same fun k hk => hb.block k (h.lt hk))
  · exact .inr fun W hW => h W ((hb.mono hn).trans hW)
theorem InR.push {n : Nat} {w w' : World} {v u : Value} {l : List Int} {ss ss' : List Sl} {u' : Value} (h : InR n w v l) (hO : Ow slE 22 n w u ss) (hn : n ≤ w.heap.size) (hp : PushT slE 22 w u ss' u' w') : InR n w' v l := by
  rcases h with h | h
  · refine .inl (h.same fun k hk => hp.2.1.block k (h.lt hk) fun e => ?_)
    obtain ⟨cs, hc⟩ := h.block hk
    obtain ⟨cs', hc'⟩ := hO.1.block e.symm
    rw [hc] at hc'
    simp at hc'
  · exact .inr fun W hW => h W ((hO.push hn hp).2.trans hW)
theorem inR_of_rd {w : World} {v : Value} {l : List Int} (h : Rd intE w v l) : InR w.heap.size w v l := .inr fun W hW => h.below hW
/-- A way: its rows. -/
def WaysS (n : Nat) (w : World) (v : Value) (ss : List Sl) (ls : List (List Int)) : Prop := Ow slE 22 n w v ss ∧ ss.length = ls.length ∧ ∀ (i : Nat) (s : Sl) (l : List Int), ss[i]? = some s → ls[i]? = some l → InR n w (sv s) l ∧ l.length ≤ 1000
def Ways (n : Nat) (w : World) (v : Value) (ls : List (List Int)) : Prop := ∃ ss, WaysS n w v ss ls
theorem WaysS.below {n : Nat} {w w' : World} {v : Value} {ss : List Sl} {ls : List (List Int)} (h : WaysS n w v ss ls) (hn : n ≤ w.heap.size) (hb : Below w.heap.size w w') : WaysS n w' v ss ls := ⟨h.1.below hb, h.2.1, fun i s l hs hl => ⟨(h.2.2 i s l hs hl).1.below hn hb, (h.2.2 i s l hs hl).2⟩⟩
theorem Ways.below {n : Nat} {w w' : World} {v : Value} {ls : List (List Int)} (h : Ways n w v ls) (hn : n ≤ w.heap.size) (hb : Below w.heap.size w w') : Ways n w' v ls := by
  obtain ⟨ss, h⟩ := h
  exact ⟨ss, h.below hn hb⟩
theorem WaysS.push {n : Nat} {w w' : World} {v v' : Value} {ss : List Sl} {ls : List (List Int)} {s : Sl} {l : List Int} (h : WaysS n w v ss ls) (hn : n ≤ w.heap.size) (hx : InR n w (sv s) l) (hl : l.length ≤ 1000) (hp : PushT slE 22 w v (ss ++ [s]) v' w') : WaysS n w' v' (ss ++ [s]) (ls ++ [l]) ∧ Below n w w' := by
  obtain ⟨h1, h2⟩ := h.1.push hn hp
  refine ⟨⟨h1, by simp [h.2.1], fun i t m ht hm => ?_⟩, h2⟩
  by_cases hi : i < ss.length
  · rw [List.getElem?_append_left hi] at ht
    rw [List.getElem?_append_left (by rw [← h.2.1]; exact hi)] at hm
    obtain ⟨k1, k2⟩ := h.2.2 i t m ht hm
    exact ⟨k1.push h.1 hn hp, k2⟩
  · have hi2 : i = ss.length := by
      have := (List.getElem?_eq_some_iff.1 ht).1
      simp at this
      omega
    subst hi2
    have e1 : t = s := by simpa using ht.symm
    have e2 : m = l := by
      rw [h.2.1] at hm
      simpa using hm.symm
    subst e1 e2
    exact ⟨hx.push h.1 hn hp, hl⟩
/-- One of the way. -/
theorem WaysS.get {n : Nat} {w : World} {v : Value} {ss : List Sl} {ls : List (List Int)} (h : WaysS n w v ss ls) {i : Nat} {l : List Int} (hl : ls[i]? = some l) : ∃ s : Sl, ss[i]? = some s ∧ InR n w (sv s) l ∧ l.length ≤ 1000 := by
  have hi := (List.getElem?_eq_some_iff.1 hl).1
  have hs : ss[i]? = some (ss[i]'(by rw [h.2.1]; exact hi)) := List.getElem?_eq_getElem _
  exact ⟨_, hs, h.2.2 i _ l hs hl⟩
theorem Ways.shape {n : Nat} {w : World} {v : Value} {ls : List (List Int)} (h : Ways n w v ls) : ∃ ao cap, v = .slice ao ls.length cap := by
  obtain ⟨ss, h⟩ := h
  obtain ⟨ao, cap, e, -⟩ := h.1.1.shape
  exact ⟨ao, cap, by rw [e, h.2.1]⟩
/-- Each of it, in every later world. -/
theorem Ways.at {n : Nat} {w : World} {ao : Option Addr} {k cap : Nat} {ls : List (List Int)} (h : Ways n w (.slice ao k cap) ls) (hn : n ≤ w.heap.size) {i : Nat} {l : List Int} (hl : ls[i]? = some l) : ∃ (b off : Nat) (sa : Option Addr) (sc : Nat), ao = some ⟨b, off, none⟩ ∧ l.length ≤ 1000 ∧ ∀ W, Below w.heap.size w W → W.cell? ⟨b, off + i, none⟩ = some (.slice sa l.length sc) ∧ InR n W (.slice sa l.length sc) l := by
  obtain ⟨ss, h⟩ := h
  obtain ⟨s, h1, h2, h3⟩ := h.get hl
  obtain ⟨b, off, r1, r2⟩ := rds_at h.1.1.rd h1
  obtain ⟨s1, s2, s3⟩ := s
  obtain ⟨sa, sc, e, -, -⟩ := h2.rd.shape
  dsimp only [sv] at e h2 r2
  injection e with e1 e2 e3
  subst e2
  exact ⟨b, off, s1, s3, r1, h3, fun W hW => ⟨r2 W hW, h2.below hn hW⟩⟩
theorem next_len (v : List Int) (z : Int) (inn : Bool) : (nextC v z inn).2.length ≤ 7 := by
  have h7 := (keep_ris v z inn)
  have := good_len_7 h7
  unfold nextC
  split
  · split
    · simp
    · split
      · simp
      · exact this
  · simp
end Go.Proofs.Ytkglckngiggbhaa

