import Derived.Test.YtljfhafmedngnaaGreatDoorP18
import Derived.Deep.RegionHeld3
import Derived.Deep.RegionLaw
import Derived.Test.YtljfhafmedngnaaGreatDoorP06
import Derived.Test.YtljfhafmedngnaaGreatDoorP10
/- The contract of a segment's add: the place of one more record. -/
namespace Go.Proofs.YtljfhafmedngnaaGreatDoor
open Go.RowKit
set_option maxRecDepth 100000
set_option linter.unusedSimpArgs false
set_option linter.unusedVariables false

/-- What add leaves: the places' row, one longer, at the segment at ⟨p, o⟩. -/
def AddT (w : World) (p o : Nat) (pv : Value) (l : List (Nat × Nat)) (e : Ending) (w' : World) : Prop :=
  e = .returned (.tuple #[]) ∧ ∃ pv' w1, w' = w1.setCell ⟨p, o + 1, none⟩ pv' ∧ R2 w1 120 pv' (pl2 l) ∧ w.grownBy w1 pv.ownBlock ∧ ∀ k, pv'.ownBlock = some k → pv.ownBlock = some k ∨ w.heap.size ≤ k

theorem cell_grown {w w' : World} {row : Option Nat} {a : Addr} {v : Value} (hg : w.grownBy w' row) (h : w.cell? a = some v) (hr : row ≠ some a.block) : w'.cell? a = some v := hg.cell h (fun e => hr e.symm)
theorem frozen_same {w w' : World} {p : Nat} (i : Nat) (h : w'.heap[p]? = w.heap[p]?) : w'.frozen? ⟨p, i, none⟩ = w.frozen? ⟨p, i, none⟩ := by simp [World.frozen?, h]
theorem grown_of_below {w w1 w2 : World} {row : Option Nat} (hb : Below w.heap.size w w1) (hg : w1.grownBy w2 row) : w.grownBy w2 row :=
  ⟨hg.os.trans hb.os, hg.tape.trans hb.tape, hg.output.trans hb.output, Nat.le_trans hb.size hg.size, fun i hi hne => (hg.block i (Nat.lt_of_lt_of_le hi hb.size) hne).trans (hb.block i hi)⟩
theorem pl2_append (l r : List (Nat × Nat)) : pl2 (l ++ r) = pl2 l ++ pl2 r := by simp [pl2]
theorem pl2_length (l : List (Nat × Nat)) : (pl2 l).length = l.length := by simp [pl2]

set_option maxHeartbeats 4000000 in
theorem add_of (p o : Nat) (num : Int) (pv : Value) (l : List (Nat × Nat)) (idx sz : Nat) (w : World) (h0 : w.cell? ⟨p, o, none⟩ = some (.int .i64 num)) (h1 : w.cell? ⟨p, o + 1, none⟩ = some pv) (hf : w.frozen? ⟨p, o + 1, none⟩ = false)
    (hR : R2 w 120 pv (pl2 l)) (hp : pv.ownBlock ≠ some p) (hl : l.length ≤ 100000) (hs : endI l l.length + sz ≤ 1000000000) :
    Calls Tryz.prog 88 #[.pointer (some ⟨p, o, none⟩), .int .u64 (idx : Int), .int .i64 (sz : Int)] w (AddT w p o pv (l ++ [(idx, endI l l.length + sz)])) := by
  have hpl := World.block_lt_of_cell? w _ h1
  have hS : ∀ w', Below w.heap.size w w' → w'.cell? ⟨p, o, none⟩ = some (.int .i64 num) ∧ w'.cell? ⟨p, o + 1, none⟩ = some pv := fun w' hb => ⟨(hb.cell (p := ⟨p, o, none⟩) hpl).trans h0, (hb.cell (p := ⟨p, o + 1, none⟩) hpl).trans h1⟩
  have hdr : Below w.heap.size w w.drew := (Below.refl _ _).drew
  have ks := ssize_of num pv l w.drew (hR.pv.below hdr) (by omega)
  have q1 : IntKind.i64.wrap ((endI l l.length : Int) + (sz : Int)) = ((endI l l.length + sz : Nat) : Int) := by
    rw [show (endI l l.length : Int) + (sz : Int) = ((endI l l.length + sz : Nat) : Int) by omega]
    exact IntWalk.i64_in _ (by omega)
  generalize endI l l.length = E at *
  have kp : ∀ w2, Below w.heap.size w w2 → ∀ ty, ∃ v' w', (Builtin.append_ #[71, 71] ty #[pv, .slice (some ⟨w2.heap.size, 0, none⟩) 1 1]).run Tryz.prog (w2.alloc (.cells #[.int .u64 (idx : Int), .int .i64 ((E : Int) + (sz : Int))] 120)) = .ok v' w' ∧ (R2 w' 120 v' (pl2 (l ++ [(idx, E + sz)])) ∧ w.grownBy w' pv.ownBlock ∧ (∀ k, v'.ownBlock = some k → pv.ownBlock = some k ∨ w.heap.size ≤ k) ∧ w'.cell? ⟨p, o + 1, none⟩ = some pv ∧ w'.frozen? ⟨p, o + 1, none⟩ = false ∧ w'.cell? ⟨p, o, none⟩ = some (.int .i64 num) ∧ ∃ a n c, v' = .slice a n c) := fun w2 hb2 ty => by
    have hR2 : R2 w2 120 pv (pl2 l) := hR.same fun k hk => hb2.block k (hR.lt hk)
    obtain ⟨v', w', r1, r2, r3, r4⟩ := push_place w2 ty pv (pl2 l) (.int .u64 (idx : Int), .int .i64 ((E : Int) + (sz : Int))) hR2 (by rw [pl2_length]; omega) rfl rfl
    have hg := grown_of_below hb2 r3
    refine ⟨v', w', r1, by rw [pl2_append, show pl2 [(idx, E + sz)] = [(.int .u64 (idx : Int), .int .i64 ((E : Int) + (sz : Int)))] by simp [pl2]]; exact r2, hg, fun k hk => (r4 k hk).imp id fun h => Nat.le_trans hb2.size h, cell_grown hg h1 hp, ?_, cell_grown hg h0 hp, ?_⟩
    · rw [frozen_same (o + 1) (hg.block p hpl (fun e => hp e.symm))]
      exact hf
    · obtain ⟨a, c, e, -⟩ := r2.shape
      exact ⟨a, _, c, e⟩
  have fin : ∀ v' w', R2 w' 120 v' (pl2 (l ++ [(idx, E + sz)])) → w.grownBy w' pv.ownBlock → (∀ k, v'.ownBlock = some k → pv.ownBlock = some k ∨ w.heap.size ≤ k) → Hid (AddT w p o pv (l ++ [(idx, E + sz)]) (.returned (.tuple #[])) (w'.setCell ⟨p, o + 1, none⟩ v')) := fun v' w' r1 r2 r3 => ⟨rfl, v', w', rfl, r1, r2, r3⟩
  have y0 := hS _ hdr
  have hsh : ∃ ao cap, pv = .slice ao l.length cap := by
    obtain ⟨ao, cap, e, -⟩ := hR.shape
    exact ⟨ao, cap, by rw [e, pl2_length]⟩
  obtain ⟨ao, cap, rfl⟩ := hsh
  generalize AddT w p o (.slice ao l.length cap) (l ++ [(idx, E + sz)]) = T at *
  clear hR hf h0 h1
  go_enter Tryz.func88, Tryz.ntmps88
  go_wp2
  obtain ⟨z0, z1⟩ := hS _ hdr
  go_region_law (first
      | (refine step_by (by rfl) _ _ _ (by rfl) (.slice ao l.length cap) _ (by simp [Act.eval, Act.put]) (by simp [Act.eval, Act.put]) kp2 ?_; rintro v3 w3 ⟨r1, r2, r3, r4, r5, r6, a3, n3, c3, rfl⟩; have hfin := fin _ w3 r1 r2 r3)
      | (go_simp; go_wp2_with (go_at_call 73; refine ks.mono ?_; rintro e w2 ⟨rfl, hb2⟩; have hb02 := hdr.trans hb2; obtain ⟨z2, z3⟩ := hS _ hb02; have kp2 := kp _ hb02; obtain ⟨z4, z5⟩ := hS _ (hb02.alloc hb02.size (.cells #[.int .u64 (idx : Int), .int .i64 ((E : Int) + (sz : Int))] 120)))))
  all_goals
    go_end0
    exact hfin.out
end Go.Proofs.YtljfhafmedngnaaGreatDoor

/- The contract of a reader's Uvarint. -/
namespace Go.Proofs.YtljfhafmedngnaaGreatDoor.Fr
open Go.RowKit WireMath
set_option maxRecDepth 100000
set_option linter.unusedSimpArgs false

set_option maxHeartbeats 2000000 in
theorem uvarint_m (q : Nat) (l : List Nat) (a b : Nat) (w : World) (h : Rd w q l a b) (hl : ∀ c ∈ l, c < 256) :
    Calls Tryz.prog 92 #[.pointer (some ⟨q, 0, none⟩)] w fun e w' => e = .returned (.int .u64 (uvN l a b : Int)) ∧ Rd w' q l (uvA l a b) (uvE l a b) ∧ Kp q w w' := by
  cases hrd : rd 10 0 0 (src l a b) with
  | none =>
    have e1 : uvN l a b = 0 := by simp [uvN, hrd]
    have e2 : uvA l a b = a := by simp [uvA, hrd]
    have e3 : uvE l a b = wb b 5 := by simp [uvE, hrd]
    rw [e1, e2, e3]
    go_enter Tryz.func92, Tryz.ntmps92
    go_wp2_with fail
    refine (peek_none q l a b w h hl hrd).mono ?_
    rintro e w1 ⟨rfl, h1, k1⟩
    go_wp2_with fail
    refine (skip_of q l a _ 0 w1 h1 (by obtain ⟨_, _, _, h3⟩ := h1; omega)).mono ?_
    rintro e w2 ⟨rfl, h2, k2⟩
    go_wp2
    go_ret
    exact ⟨rfl, h2, k1.trans k2⟩
  | some x =>
    obtain ⟨n, k⟩ := x
    obtain ⟨hn, hk0, hk10, hkl⟩ := rd_facts (src_bytes hl) hrd
    obtain ⟨rfl, hal⟩ := src_len hkl hk0
    have e1 : uvN l a 0 = n := by simp [uvN, hrd]
    have e2 : uvA l a 0 = a + k := by simp [uvA, hrd]
    have e3 : uvE l a 0 = 0 := by simp [uvE, hrd]
    rw [e1, e2, e3]
    go_enter Tryz.func92, Tryz.ntmps92
    go_wp2_with fail
    refine (peek_some q l a 0 n k w h hl hrd).mono ?_
    rintro e w1 ⟨rfl, h1, k1⟩
    go_wp2_with fail
    refine (skip_of q l a 0 k w1 h1 hal).mono ?_
    rintro e w2 ⟨rfl, h2, k2⟩
    go_wp2
    go_ret
    exact ⟨rfl, h2, k1.trans k2⟩

end Go.Proofs.YtljfhafmedngnaaGreatDoor.Fr

/- Plain mathematics of a log's records (stage 6): a record's bytes, the record at the beginning of bytes, all records of a segment; what was put together is read back, and a beginning of it is a beginning. -/
namespace WalMath
open WireMath FrameMath

/-- A record. -/
structure Rec where
  index : Nat
  data : List Nat
/-- May one be? -/
def okRec (r : Rec) : Prop := 0 < r.index ∧ r.index < 18446744073709551616 ∧ r.data.length ≤ 4096 ∧ ∀ c ∈ r.data, c < 256
/-- Its bytes. -/
def recB (r : Rec) : List Nat := frameB 1 (uv r.index ++ r.data)

/-- The record at the beginning of bytes, and how many it has. -/
def one (b : List Nat) : Option (Rec × Nat) :=
  match next b with
  | .ok (k, d, n) => if k = 1 then
      match rd 10 0 0 d with
      | some (i, m) => if i = 0 ∨ 4096 < d.length - m then none else some (⟨i, d.drop m⟩, n)
      | none => none
    else none
  | .error _ => none

theorem rec_small {r : Rec} (h : okRec r) : (uv r.index ++ r.data).length ≤ 1048571 := by
  have := uv_len10 h.2.1
  have := h.2.2.1
  rw [List.length_append]
  omega
theorem one_rec {r : Rec} (h : okRec r) (rest : List Nat) : one (recB r ++ rest) = some (r, (recB r).length) := by
  unfold one recB
  rw [next_frame 1 _ rest (rec_small h)]
  dsimp only
  rw [if_pos rfl, read_back r.index h.2.1]
  dsimp only
  rw [if_neg (by rw [List.length_append]; have := h.1; have := h.2.2.1; omega), List.drop_left]
theorem one_cut {r : Rec} (h : okRec r) {c : Nat} (hc : c < (recB r).length) : one ((recB r).take c) = none := by
  unfold one recB
  rw [next_cut 1 _ (rec_small h) c hc]
theorem one_pos {b : List Nat} {r : Rec} {n : Nat} (h : one b = some (r, n)) : 0 < n ∧ n ≤ b.length ∧ 0 < r.index := by
  unfold one at h
  split at h
  · rename_i k d m hn
    split at h
    · split at h
      · rename_i i q hr
        split at h
        · cases h
        · rename_i hi
          cases h
          have hf := next_ok_facts hn
          exact ⟨hf.1, hf.2.1, by show 0 < i; omega⟩
      · cases h
    · cases h
  · cases h

theorem recB_pos (r : Rec) : 0 < (recB r).length := List.length_pos_iff.2 (frameB_ne _ _)
/-- All records' bytes. -/
def joinR (rs : List Rec) : List Nat := rs.flatMap recB
theorem joinR_cons (r : Rec) (rs : List Rec) : joinR (r :: rs) = recB r ++ joinR rs := by simp [joinR]

/-- The records of a segment's bytes: where the first must have index nx (0: any); whether all was read; the next index (0: none may follow). -/
def recs : Nat → Nat → List Nat → List Rec × Bool × Nat
  | 0, nx, b => ([], b.isEmpty, nx)
  | f + 1, nx, b =>
    if b = [] then ([], true, nx) else
    match one b with
    | none => ([], false, nx)
    | some (r, n) =>
      if nx ≠ 0 ∧ r.index ≠ nx then ([], false, nx)
      else if (r.index + 1) % 18446744073709551616 = 0 then ([r], false, 0)
      else (r :: (recs f ((r.index + 1) % 18446744073709551616) (b.drop n)).1, (recs f ((r.index + 1) % 18446744073709551616) (b.drop n)).2.1, (recs f ((r.index + 1) % 18446744073709551616) (b.drop n)).2.2)

/-- Indexes rise by one each, from nx on (0: from any). -/
def chain : Nat → List Rec → Prop
  | _, [] => True
  | nx, r :: rs => (nx = 0 ∨ r.index = nx) ∧ chain (r.index + 1) rs
/-- The index behind records. -/
def after : Nat → List Rec → Nat
  | nx, [] => nx
  | _, r :: rs => after (r.index + 1) rs

theorem recs_join : ∀ (rs : List Rec) (f nx : Nat), rs.length ≤ f → chain nx rs → (∀ r ∈ rs, okRec r ∧ r.index + 1 < 18446744073709551616) → recs f nx (joinR rs) = (rs, true, after nx rs)
  | [], f, nx, _, _, _ => by cases f <;> simp [recs, joinR, after]
  | r :: rs, 0, nx, hl, _, _ => by simp at hl
  | r :: rs, f + 1, nx, hl, hc, ho => by
    have h0 := ho r List.mem_cons_self
    have hm : (r.index + 1) % 18446744073709551616 = r.index + 1 := Nat.mod_eq_of_lt h0.2
    have hne : joinR (r :: rs) ≠ [] := by
      rw [joinR_cons]
      intro e
      have := recB_pos r
      rw [(List.append_eq_nil_iff.1 e).1] at this
      simp at this
    rw [recs, if_neg hne, joinR_cons, one_rec h0.1]
    dsimp only
    rw [if_neg (by rcases hc.1 with h | h <;> omega), hm, if_neg (by omega), List.drop_left, recs_join rs f (r.index + 1) (by simpa using hl) hc.2 (fun x hx => ho x (List.mem_cons_of_mem _ hx))]
    rfl

/-- A beginning of records' bytes is a beginning of the records. -/
theorem recs_cut : ∀ (rs : List Rec) (f nx c : Nat), rs.length ≤ f → chain nx rs → (∀ r ∈ rs, okRec r ∧ r.index + 1 < 18446744073709551616) → c ≤ (joinR rs).length →
    ∃ j ok, recs f nx ((joinR rs).take c) = (rs.take j, ok, after nx (rs.take j)) ∧ j ≤ rs.length ∧ (joinR (rs.take j)).length ≤ c ∧ (joinR (rs.take j)).isPrefixOf (joinR rs) = true ∧ ∀ i, i ≤ rs.length → (joinR (rs.take i)).length ≤ c → i ≤ j
  | [], f, nx, c, _, _, _, _ => ⟨0, true, by cases f <;> simp [recs, joinR, after], Nat.le_refl _, by simp [joinR], by simp [joinR], fun i hi _ => by simpa using hi⟩
  | r :: rs, 0, nx, c, hl, _, _, _ => by simp at hl
  | r :: rs, f + 1, nx, c, hl, hc, ho, hcl => by
    have h0 := ho r List.mem_cons_self
    have hm : (r.index + 1) % 18446744073709551616 = r.index + 1 := Nat.mod_eq_of_lt h0.2
    have hlong : ∀ i, (joinR ((r :: rs).take (i + 1))).length = (recB r).length + (joinR (rs.take i)).length := fun i => by
      rw [List.take_succ_cons, joinR_cons, List.length_append]
    by_cases hcr : c < (recB r).length
    · refine ⟨0, decide (c = 0), ?_, Nat.zero_le _, by simp [joinR], by simp [joinR], fun i hi hle => ?_⟩
      · rw [joinR_cons, List.take_append_of_le_length (by omega)]
        rw [recs]
        by_cases h00 : c = 0
        · subst h00
          simp [after]
        · have hne : (recB r).take c ≠ [] := by
            intro e
            have : min c (recB r).length = 0 := by rw [← List.length_take, e]; rfl
            omega
          rw [if_neg hne, one_cut h0.1 hcr]
          simp [after, h00]
      · cases i with
        | zero => exact Nat.le_refl _
        | succ i =>
          rw [hlong] at hle
          omega
    · have hcr' : (recB r).length ≤ c := by omega
      have hj : (joinR (r :: rs)).length = (recB r).length + (joinR rs).length := by rw [joinR_cons, List.length_append]
      obtain ⟨j, ok, e1, e2, e3, e4, e5⟩ := recs_cut rs f (r.index + 1) (c - (recB r).length) (by simpa using hl) hc.2 (fun x hx => ho x (List.mem_cons_of_mem _ hx)) (by omega)
      have htk : (joinR (r :: rs)).take c = recB r ++ (joinR rs).take (c - (recB r).length) := by
        rw [joinR_cons, List.take_append, List.take_of_length_le hcr']
      have hne : recB r ++ (joinR rs).take (c - (recB r).length) ≠ [] := by
        intro e
        have := recB_pos r
        rw [(List.append_eq_nil_iff.1 e).1] at this
        simp at this
      refine ⟨j + 1, ok, ?_, by simp; omega, by rw [hlong]; omega, ?_, fun i hi hle => ?_⟩
      · rw [htk, recs, if_neg hne, one_rec h0.1]
        dsimp only
        rw [if_neg (by rcases hc.1 with h | h <;> omega), hm, if_neg (by omega), List.drop_left, e1]
        rfl
      · rw [List.take_succ_cons, joinR_cons, joinR_cons, List.isPrefixOf_iff_prefix, List.prefix_append_right_inj]
        exact List.isPrefixOf_iff_prefix.1 e4
      · cases i with
        | zero => exact Nat.zero_le _
        | succ i =>
          rw [hlong] at hle
          exact Nat.succ_le_succ (e5 i (by simpa using hi) (by omega))
end WalMath

