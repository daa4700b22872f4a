import Derived.Test.YtgfoogeiancecaaGreatDoorHw09
/- Plain mathematics of a log's records (stage 6): a record's bytes, the record at the beginning of bytes, all records of a segment; what was put together is read back, and a beginning of it is a beginning. -/
namespace WalMath
open WireMath FrameMath

/-- A record. -/
structure Rec where
  index : Nat
  data : List Nat
/-- May one be? -/
def okRec (r : Rec) : Prop := 0 < r.index ∧ r.index < 18446744073709551616 ∧ r.data.length ≤ 4096 ∧ ∀ c ∈ r.data, c < 256
/-- Its bytes. -/
def recB (r : Rec) : List Nat := frameB 1 (uv r.index ++ r.data)

/-- The record at the beginning of bytes, and how many it has. -/
def one (b : List Nat) : Option (Rec × Nat) :=
  match next b with
  | .ok (k, d, n) => if k = 1 then
      match rd 10 0 0 d with
      | some (i, m) => if i = 0 ∨ 4096 < d.length - m then none else some (⟨i, d.drop m⟩, n)
      | none => none
    else none
  | .error _ => none

theorem rec_small {r : Rec} (h : okRec r) : (uv r.index ++ r.data).length ≤ 1048571 := by
  have := uv_len10 h.2.1
  have := h.2.2.1
  rw [List.length_append]
  omega
theorem one_rec {r : Rec} (h : okRec r) (rest : List Nat) : one (recB r ++ rest) = some (r, (recB r).length) := by
  unfold one recB
  rw [next_frame 1 _ rest (rec_small h)]
  dsimp only
  rw [if_pos rfl, read_back r.index h.2.1]
  dsimp only
  rw [if_neg (by rw [List.length_append]; have := h.1; have := h.2.2.1; omega), List.drop_left]
theorem one_cut {r : Rec} (h : okRec r) {c : Nat} (hc : c < (recB r).length) : one ((recB r).take c) = none := by
  unfold one recB
  rw [next_cut 1 _ (rec_small h) c hc]
theorem one_pos {b : List Nat} {r : Rec} {n : Nat} (h : one b = some (r, n)) : 0 < n ∧ n ≤ b.length ∧ 0 < r.index := by
  unfold one at h
  split at h
  · rename_i k d m hn
    split at h
    · split at h
      · rename_i i q hr
        split at h
        · cases h
        · rename_i hi
          cases h
          have hf := next_ok_facts hn
          exact ⟨hf.1, hf.2.1, by show 0 < i; omega⟩
      · cases h
    · cases h
  · cases h

theorem recB_pos (r : Rec) : 0 < (recB r).length := List.length_pos_iff.2 (frameB_ne _ _)
/-- All records' bytes. -/
def joinR (rs : List Rec) : List Nat := rs.flatMap recB
theorem joinR_cons (r : Rec) (rs : List Rec) : joinR (r :: rs) = recB r ++ joinR rs := by simp [joinR]

/-- The records of a segment's bytes: where the first must have index nx (0: any); whether all was read; the next index (0: none may follow). -/
def recs : Nat → Nat → List Nat → List Rec × Bool × Nat
  | 0, nx, b => ([], b.isEmpty, nx)
  | f + 1, nx, b =>
    if b = [] then ([], true, nx) else
    match one b with
    | none => ([], false, nx)
    | some (r, n) =>
      if nx ≠ 0 ∧ r.index ≠ nx then ([], false, nx)
      else if (r.index + 1) % 18446744073709551616 = 0 then ([r], false, 0)
      else (r :: (recs f ((r.index + 1) % 18446744073709551616) (b.drop n)).1, (recs f ((r.index + 1) % 18446744073709551616) (b.drop n)).2.1, (recs f ((r.index + 1) % 18446744073709551616) (b.drop n)).2.2)

/-- Indexes rise by one each, from nx on (0: from any). -/
def chain : Nat → List Rec → Prop
  | _, [] => True
  | nx, r :: rs => (nx = 0 ∨ r.index = nx) ∧ chain (r.index + 1) rs
/-- The index behind records. -/
def after : Nat → List Rec → Nat
  | nx, [] => nx
  | _, r :: rs => after (r.index + 1) rs

theorem recs_join : ∀ (rs : List Rec) (f nx : Nat), rs.length ≤ f → chain nx rs → (∀ r ∈ rs, okRec r ∧ r.index + 1 < 18446744073709551616) → recs f nx (joinR rs) = (rs, true, after nx rs)
  | [], f, nx, _, _, _ => by cases f <;> simp [recs, joinR, after]
  | r :: rs, 0, nx, hl, _, _ => by simp at hl
  | r :: rs, f + 1, nx, hl, hc, ho => by
    have h0 := ho r List.mem_cons_self
    have hm : (r.index + 1) % 18446744073709551616 = r.index + 1 := Nat.mod_eq_of_lt h0.2
    have hne : joinR (r :: rs) ≠ [] := by
      rw [joinR_cons]
      intro e
      have := recB_pos r
      rw [(List.append_eq_nil_iff.1 e).1] at this
      simp at this
    rw [recs, if_neg hne, joinR_cons, one_rec h0.1]
    dsimp only
    rw [if_neg (by rcases hc.1 with h | h <;> omega), hm, if_neg (by omega), List.drop_left, recs_join rs f (r.index + 1) (by simpa using hl) hc.2 (fun x hx => ho x (List.mem_cons_of_mem _ hx))]
    rfl

/-- A beginning of records' bytes is a beginning of the records. -/
theorem recs_cut : ∀ (rs : List Rec) (f nx c : Nat), rs.length ≤ f → chain nx rs → (∀ r ∈ rs, okRec r ∧ r.index + 1 < 18446744073709551616) → c ≤ (joinR rs).length →
    ∃ j ok, recs f nx ((joinR rs).take c) = (rs.take j, ok, after nx (rs.take j)) ∧ j ≤ rs.length ∧ (joinR (rs.take j)).length ≤ c ∧ (joinR (rs.take j)).isPrefixOf (joinR rs) = true ∧ ∀ i, i ≤ rs.length → (joinR (rs.take i)).length ≤ c → i ≤ j
  | [], f, nx, c, _, _, _, _ => ⟨0, true, by cases f <;> simp [recs, joinR, after], Nat.le_refl _, by simp [joinR], by simp [joinR], fun i hi _ => by simpa using hi⟩
  | r :: rs, 0, nx, c, hl, _, _, _ => by simp at hl
  | r :: rs, f + 1, nx, c, hl, hc, ho, hcl => by
    have h0 := ho r List.mem_cons_self
    have hm : (r.index + 1) % 18446744073709551616 = r.index + 1 := Nat.mod_eq_of_lt h0.2
    have hlong : ∀ i, (joinR ((r :: rs).take (i + 1))).length = (recB r).length + (joinR (rs.take i)).length := fun i => by
      rw [List.take_succ_cons, joinR_cons, List.length_append]
    by_cases hcr : c < (recB r).length
    · refine ⟨0, decide (c = 0), ?_, Nat.zero_le _, by simp [joinR], by simp [joinR], fun i hi hle => ?_⟩
      · rw [joinR_cons, List.take_append_of_le_length (by omega)]
        rw [recs]
        by_cases h00 : c = 0
        · subst h00
          simp [after]
        · have hne : (recB r).take c ≠ [] := by
            intro e
            have : min c (recB r).length = 0 := by rw [← List.length_take, e]; rfl
            omega
          rw [if_neg hne, one_cut h0.1 hcr]
          simp [after, h00]
      · cases i with
        | zero => exact Nat.le_refl _
        | succ i =>
          rw [hlong] at hle
          omega
    · have hcr' : (recB r).length ≤ c := by omega
      have hj : (joinR (r :: rs)).length = (recB r).length + (joinR rs).length := by rw [joinR_cons, List.length_append]
      obtain ⟨j, ok, e1, e2, e3, e4, e5⟩ := recs_cut rs f (r.index + 1) (c - (recB r).length) (by simpa using hl) hc.2 (fun x hx => ho x (List.mem_cons_of_mem _ hx)) (by omega)
      have htk : (joinR (r :: rs)).take c = recB r ++ (joinR rs).take (c - (recB r).length) := by
        rw [joinR_cons, List.take_append, List.take_of_length_le hcr']
      have hne : recB r ++ (joinR rs).take (c - (recB r).length) ≠ [] := by
        intro e
        have := recB_pos r
        rw [(List.append_eq_nil_iff.1 e).1] at this
        simp at this
      refine ⟨j + 1, ok, ?_, by simp; omega, by rw [hlong]; omega, ?_, fun i hi hle => ?_⟩
      · rw [htk, recs, if_neg hne, one_rec h0.1]
        dsimp only
        rw [if_neg (by rcases hc.1 with h | h <;> omega), hm, if_neg (by omega), List.drop_left, e1]
        rfl
      · rw [List.take_succ_cons, joinR_cons, joinR_cons, List.isPrefixOf_iff_prefix, List.prefix_append_right_inj]
        exact List.isPrefixOf_iff_prefix.1 e4
      · cases i with
        | zero => exact Nat.zero_le _
        | succ i =>
          rw [hlong] at hle
          exact Nat.succ_le_succ (e5 i (by simpa using hi) (by omega))
end WalMath

/- Plain mathematics of a log in segments (stage 6): where records end, how many whole records a beginning of bytes has, their indexes. -/
namespace WalMath
open WireMath FrameMath

theorem joinR_nil : joinR [] = [] := rfl
theorem joinR_append (a b : List Rec) : joinR (a ++ b) = joinR a ++ joinR b := by simp [joinR]
theorem joinR_single (r : Rec) : joinR [r] = recB r := by simp [joinR]
/-- How many bytes records have. -/
def sz (rs : List Rec) : Nat := (joinR rs).length
theorem sz_nil : sz [] = 0 := rfl
theorem sz_cons (r : Rec) (rs : List Rec) : sz (r :: rs) = (recB r).length + sz rs := by simp [sz, joinR_cons]
theorem sz_append (a b : List Rec) : sz (a ++ b) = sz a + sz b := by simp [sz, joinR_append]
theorem sz_single (r : Rec) : sz [r] = (recB r).length := by simp [sz, joinR_single]
theorem sz_take_le (rs : List Rec) (n : Nat) : sz (rs.take n) ≤ sz rs := by
  conv => rhs; rw [← List.take_append_drop n rs, sz_append]
  omega
theorem sz_take_mono (rs : List Rec) {m n : Nat} (h : m ≤ n) : sz (rs.take m) ≤ sz (rs.take n) := by
  have e : rs.take m = (rs.take n).take m := by rw [List.take_take, Nat.min_eq_left h]
  rw [e]
  exact sz_take_le _ _

/-- Where each record stands: its index, and where it ends. -/
def plc : Nat → List Rec → List (Nat × Nat)
  | _, [] => []
  | o, r :: rs => (r.index, o + (recB r).length) :: plc (o + (recB r).length) rs
theorem plc_length : ∀ (rs : List Rec) (o : Nat), (plc o rs).length = rs.length
  | [], _ => rfl
  | r :: rs, o => by simp [plc, plc_length rs]
theorem plc_append : ∀ (a b : List Rec) (o : Nat), plc o (a ++ b) = plc o a ++ plc (o + sz a) b
  | [], b, o => by simp [plc, sz_nil]
  | r :: a, b, o => by
    rw [List.cons_append, plc, plc_append a b, plc, sz_cons, List.cons_append, Nat.add_assoc]
theorem plc_snoc (rs : List Rec) (r : Rec) : plc 0 (rs ++ [r]) = plc 0 rs ++ [(r.index, sz rs + (recB r).length)] := by
  rw [plc_append]
  simp [plc]
theorem plc_take : ∀ (rs : List Rec) (o n : Nat), (plc o rs).take n = plc o (rs.take n)
  | [], o, n => by simp [plc]
  | r :: rs, o, 0 => by simp [plc]
  | r :: rs, o, n + 1 => by simp [plc, plc_take rs]
theorem plc_get : ∀ (rs : List Rec) (o i : Nat) (r : Rec), rs[i]? = some r → (plc o rs)[i]? = some (r.index, o + sz (rs.take (i + 1)))
  | [], o, i, r, h => by simp at h
  | x :: rs, o, 0, r, h => by
    simp only [List.getElem?_cons_zero, Option.some.injEq] at h
    subst h
    simp [plc, sz_single]
  | x :: rs, o, i + 1, r, h => by
    rw [plc, List.getElem?_cons_succ, plc_get rs _ i r (by simpa using h), List.take_succ_cons, sz_cons, Nat.add_assoc]

/-- How many whole records the first c bytes have. -/
def cutN : List Rec → Nat → Nat
  | [], _ => 0
  | r :: rs, c => if (recB r).length ≤ c then cutN rs (c - (recB r).length) + 1 else 0
theorem cutN_le : ∀ (rs : List Rec) (c : Nat), cutN rs c ≤ rs.length
  | [], _ => Nat.le_refl _
  | r :: rs, c => by
    rw [cutN]
    split
    · have := cutN_le rs (c - (recB r).length)
      simp
      omega
    · simp
theorem cutN_sz : ∀ (rs : List Rec) (c : Nat), sz (rs.take (cutN rs c)) ≤ c
  | [], c => by simp [sz_nil]
  | r :: rs, c => by
    rw [cutN]
    split
    · rename_i h
      rw [List.take_succ_cons, sz_cons]
      have := cutN_sz rs (c - (recB r).length)
      omega
    · simp [sz_nil]
theorem cutN_most : ∀ (rs : List Rec) (c i : Nat), i ≤ rs.length → sz (rs.take i) ≤ c → i ≤ cutN rs c
  | _, _, 0, _, _ => Nat.zero_le _
  | [], c, i + 1, h, _ => by simp at h
  | r :: rs, c, i + 1, h, hs => by
    rw [List.take_succ_cons, sz_cons] at hs
    rw [cutN, if_pos (by omega)]
    exact Nat.succ_le_succ (cutN_most rs _ i (by simpa using h) (by omega))
theorem cutN_all (rs : List Rec) (c : Nat) (h : sz rs ≤ c) : cutN rs c = rs.length :=
  Nat.le_antisymm (cutN_le rs c) (cutN_most rs c rs.length (Nat.le_refl _) (by rw [List.take_length]; exact h))

/-- May records be? -/
def okAll (rs : List Rec) : Prop := ∀ r ∈ rs, okRec r

theorem one_nil : one [] = none := by
  cases h : one [] with
  | none => rfl
  | some x =>
    have := one_pos (b := []) (r := x.1) (n := x.2) h
    simp at this
    omega
theorem one_at : ∀ (rs : List Rec) (c i : Nat) (r : Rec), okAll rs → i < cutN rs c → rs[i]? = some r → one (((joinR rs).take c).drop (sz (rs.take i))) = some (r, (recB r).length)
  | [], c, i, r, _, h, _ => by simp [cutN] at h
  | x :: rs, c, i, r, hok, h, hr => by
    rw [cutN] at h
    split at h
    · rename_i hx
      have e : (joinR (x :: rs)).take c = recB x ++ (joinR rs).take (c - (recB x).length) := by
        rw [joinR_cons, List.take_append, List.take_of_length_le hx]
      cases i with
      | zero =>
        simp only [List.getElem?_cons_zero, Option.some.injEq] at hr
        subst hr
        rw [e, List.take_zero, sz_nil, List.drop_zero]
        exact one_rec (hok x List.mem_cons_self) _
      | succ i =>
        rw [e, List.take_succ_cons, sz_cons, List.drop_append, List.drop_eq_nil_of_le (by omega), List.nil_append, Nat.add_sub_cancel_left]
        exact one_at rs _ i r (fun y hy => hok y (List.mem_cons_of_mem _ hy)) (by omega) (by simpa using hr)
    · omega
theorem one_end : ∀ (rs : List Rec) (c : Nat), okAll rs → one (((joinR rs).take c).drop (sz (rs.take (cutN rs c)))) = none
  | [], c, _ => by
    simpa [joinR_nil] using one_nil
  | x :: rs, c, hok => by
    rw [cutN]
    split
    · rename_i hx
      have e : (joinR (x :: rs)).take c = recB x ++ (joinR rs).take (c - (recB x).length) := by
        rw [joinR_cons, List.take_append, List.take_of_length_le hx]
      rw [e, List.take_succ_cons, sz_cons, List.drop_append, List.drop_eq_nil_of_le (by omega), List.nil_append, Nat.add_sub_cancel_left]
      exact one_end rs _ (fun y hy => hok y (List.mem_cons_of_mem _ hy))
    · rename_i hx
      rw [List.take_zero, sz_nil, List.drop_zero, joinR_cons, List.take_append_of_le_length (by omega)]
      exact one_cut (hok x List.mem_cons_self) (by omega)

/-- Indexes rise by one each, behind the index l (0: from any). -/
def chn : Nat → List Rec → Prop
  | _, [] => True
  | l, r :: rs => (l = 0 ∨ r.index = l + 1) ∧ chn r.index rs
/-- The last index. -/
def lastIx : Nat → List Rec → Nat
  | l, [] => l
  | _, r :: rs => lastIx r.index rs
theorem chn_append : ∀ (a b : List Rec) (l : Nat), chn l (a ++ b) ↔ chn l a ∧ chn (lastIx l a) b
  | [], b, l => by simp [chn, lastIx]
  | r :: a, b, l => by simp [chn, lastIx, chn_append a b, and_assoc]
theorem lastIx_append : ∀ (a b : List Rec) (l : Nat), lastIx l (a ++ b) = lastIx (lastIx l a) b
  | [], b, l => rfl
  | r :: a, b, l => by simp [lastIx, lastIx_append a b]
theorem chn_take (a : List Rec) (n l : Nat) (h : chn l a) : chn l (a.take n) := by
  rw [← List.take_append_drop n a, chn_append] at h
  exact h.1
theorem chn_ge : ∀ (a : List Rec) (l : Nat), chn l a → l ≤ lastIx l a
  | [], l, _ => Nat.le_refl _
  | r :: a, l, h => by
    have := chn_ge a r.index h.2
    rw [lastIx]
    rcases h.1 with h1 | h1 <;> omega
/-- The i-th index, counted from the first. -/
theorem chn_get : ∀ (a : List Rec) (l i : Nat) (r s : Rec), okAll (s :: a) → chn l (s :: a) → (s :: a)[i]? = some r → r.index = s.index + i
  | _, l, 0, r, s, _, _, h => by simp at h; rw [h]; rfl
  | [], l, i + 1, r, s, _, _, h => by simp at h
  | t :: a, l, i + 1, r, s, ho, hc, h => by
    have := chn_get a s.index i r t (fun x hx => ho x (List.mem_cons_of_mem _ hx)) hc.2 (by simpa using h)
    have h1 := hc.2.1
    have h2 := (ho s List.mem_cons_self).1
    omega
theorem lastIx_eq (a : List Rec) (l : Nat) : lastIx l a = (a.getLast?.map Rec.index).getD l := by
  induction a generalizing l with
  | nil => rfl
  | cons r a ih =>
    rw [lastIx, ih]
    cases a with
    | nil => rfl
    | cons s a => simp [List.getLast?_cons]
end WalMath

