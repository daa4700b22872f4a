import Derived.Test.YtljfhafmedngnaaGreatDoorP19
/- Plain mathematics of a log in segments (stage 6): where records end, how many whole records a beginning of bytes has, their indexes. -/
namespace WalMath
open WireMath FrameMath

theorem joinR_nil : joinR [] = [] := rfl
theorem joinR_append (a b : List Rec) : joinR (a ++ b) = joinR a ++ joinR b := by simp [joinR]
theorem joinR_single (r : Rec) : joinR [r] = recB r := by simp [joinR]
/-- How many bytes records have. -/
def sz (rs : List Rec) : Nat := (joinR rs).length
theorem sz_nil : sz [] = 0 := rfl
theorem sz_cons (r : Rec) (rs : List Rec) : sz (r :: rs) = (recB r).length + sz rs := by simp [sz, joinR_cons]
theorem sz_append (a b : List Rec) : sz (a ++ b) = sz a + sz b := by simp [sz, joinR_append]
theorem sz_single (r : Rec) : sz [r] = (recB r).length := by simp [sz, joinR_single]
theorem sz_take_le (rs : List Rec) (n : Nat) : sz (rs.take n) ≤ sz rs := by
  conv => rhs; rw [← List.take_append_drop n rs, sz_append]
  omega
theorem sz_take_mono (rs : List Rec) {m n : Nat} (h : m ≤ n) : sz (rs.take m) ≤ sz (rs.take n) := by
  have e : rs.take m = (rs.take n).take m := by rw [List.take_take, Nat.min_eq_left h]
  rw [e]
  exact sz_take_le _ _

/-- Where each record stands: its index, and where it ends. -/
def plc : Nat → List Rec → List (Nat × Nat)
  | _, [] => []
  | o, r :: rs => (r.index, o + (recB r).length) :: plc (o + (recB r).length) rs
theorem plc_length : ∀ (rs : List Rec) (o : Nat), (plc o rs).length = rs.length
  | [], _ => rfl
  | r :: rs, o => by simp [plc, plc_length rs]
theorem plc_append : ∀ (a b : List Rec) (o : Nat), plc o (a ++ b) = plc o a ++ plc (o + sz a) b
  | [], b, o => by simp [plc, sz_nil]
  | r :: a, b, o => by
    rw [List.cons_append, plc, plc_append a b, plc, sz_cons, List.cons_append, Nat.add_assoc]
theorem plc_snoc (rs : List Rec) (r : Rec) : plc 0 (rs ++ [r]) = plc 0 rs ++ [(r.index, sz rs + (recB r).length)] := by
  rw [plc_append]
  simp [plc]
theorem plc_take : ∀ (rs : List Rec) (o n : Nat), (plc o rs).take n = plc o (rs.take n)
  | [], o, n => by simp [plc]
  | r :: rs, o, 0 => by simp [plc]
  | r :: rs, o, n + 1 => by simp [plc, plc_take rs]
theorem plc_get : ∀ (rs : List Rec) (o i : Nat) (r : Rec), rs[i]? = some r → (plc o rs)[i]? = some (r.index, o + sz (rs.take (i + 1)))
  | [], o, i, r, h => by simp at h
  | x :: rs, o, 0, r, h => by
    simp only [List.getElem?_cons_zero, Option.some.injEq] at h
    subst h
    simp [plc, sz_single]
  | x :: rs, o, i + 1, r, h => by
    rw [plc, List.getElem?_cons_succ, plc_get rs _ i r (by simpa using h), List.take_succ_cons, sz_cons, Nat.add_assoc]

/-- How many whole records the first c bytes have. -/
def cutN : List Rec → Nat → Nat
  | [], _ => 0
  | r :: rs, c => if (recB r).length ≤ c then cutN rs (c - (recB r).length) + 1 else 0
theorem cutN_le : ∀ (rs : List Rec) (c : Nat), cutN rs c ≤ rs.length
  | [], _ => Nat.le_refl _
  | r :: rs, c => by
    rw [cutN]
    split
    · have := cutN_le rs (c - (recB r).length)
      simp
      omega
    · simp
theorem cutN_sz : ∀ (rs : List Rec) (c : Nat), sz (rs.take (cutN rs c)) ≤ c
  | [], c => by simp [sz_nil]
  | r :: rs, c => by
    rw [cutN]
    split
    · rename_i h
      rw [List.take_succ_cons, sz_cons]
      have := cutN_sz rs (c - (recB r).length)
      omega
    · simp [sz_nil]
theorem cutN_most : ∀ (rs : List Rec) (c i : Nat), i ≤ rs.length → sz (rs.take i) ≤ c → i ≤ cutN rs c
  | _, _, 0, _, _ => Nat.zero_le _
  | [], c, i + 1, h, _ => by simp at h
  | r :: rs, c, i + 1, h, hs => by
    rw [List.take_succ_cons, sz_cons] at hs
    rw [cutN, if_pos (by omega)]
    exact Nat.succ_le_succ (cutN_most rs _ i (by simpa using h) (by omega))
theorem cutN_all (rs : List Rec) (c : Nat) (h : sz rs ≤ c) : cutN rs c = rs.length :=
  Nat.le_antisymm (cutN_le rs c) (cutN_most rs c rs.length (Nat.le_refl _) (by rw [List.take_length]; exact h))

/-- May records be? -/
def okAll (rs : List Rec) : Prop := ∀ r ∈ rs, okRec r

theorem one_nil : one [] = none := by
  cases h : one [] with
  | none => rfl
  | some x =>
    have := one_pos (b := []) (r := x.1) (n := x.2) h
    simp at this
    omega
theorem one_at : ∀ (rs : List Rec) (c i : Nat) (r : Rec), okAll rs → i < cutN rs c → rs[i]? = some r → one (((joinR rs).take c).drop (sz (rs.take i))) = some (r, (recB r).length)
  | [], c, i, r, _, h, _ => by simp [cutN] at h
  | x :: rs, c, i, r, hok, h, hr => by
    rw [cutN] at h
    split at h
    · rename_i hx
      have e : (joinR (x :: rs)).take c = recB x ++ (joinR rs).take (c - (recB x).length) := by
        rw [joinR_cons, List.take_append, List.take_of_length_le hx]
      cases i with
      | zero =>
        simp only [List.getElem?_cons_zero, Option.some.injEq] at hr
        subst hr
        rw [e, List.take_zero, sz_nil, List.drop_zero]
        exact one_rec (hok x List.mem_cons_self) _
      | succ i =>
        rw [e, List.take_succ_cons, sz_cons, List.drop_append, List.drop_eq_nil_of_le (by omega), List.nil_append, Nat.add_sub_cancel_left]
        exact one_at rs _ i r (fun y hy => hok y (List.mem_cons_of_mem _ hy)) (by omega) (by simpa using hr)
    · omega
theorem one_end : ∀ (rs : List Rec) (c : Nat), okAll rs → one (((joinR rs).take c).drop (sz (rs.take (cutN rs c)))) = none
  | [], c, _ => by
    simpa [joinR_nil] using one_nil
  | x :: rs, c, hok => by
    rw [cutN]
    split
    · rename_i hx
      have e : (joinR (x :: rs)).take c = recB x ++ (joinR rs).take (c - (recB x).length) := by
        rw [joinR_cons, List.take_append, List.take_of_length_le hx]
      rw [e, List.take_succ_cons, sz_cons, List.drop_append, List.drop_eq_nil_of_le (by omega), List.nil_append, Nat.add_sub_cancel_left]
      exact one_end rs _ (fun y hy => hok y (List.mem_cons_of_mem _ hy))
    · rename_i hx
      rw [List.take_zero, sz_nil, List.drop_zero, joinR_cons, List.take_append_of_le_length (by omega)]
      exact one_cut (hok x List.mem_cons_self) (by omega)

/-- Indexes rise by one each, behind the index l (0: from any). -/
def chn : Nat → List Rec → Prop
  | _, [] => True
  | l, r :: rs => (l = 0 ∨ r.index = l + 1) ∧ chn r.index rs
/-- The last index. -/
def lastIx : Nat → List Rec → Nat
  | l, [] => l
  | _, r :: rs => lastIx r.index rs
theorem chn_append : ∀ (a b : List Rec) (l : Nat), chn l (a ++ b) ↔ chn l a ∧ chn (lastIx l a) b
  | [], b, l => by simp [chn, lastIx]
  | r :: a, b, l => by simp [chn, lastIx, chn_append a b, and_assoc]
theorem lastIx_append : ∀ (a b : List Rec) (l : Nat), lastIx l (a ++ b) = lastIx (lastIx l a) b
  | [], b, l => rfl
  | r :: a, b, l => by simp [lastIx, lastIx_append a b]
theorem chn_take (a : List Rec) (n l : Nat) (h : chn l a) : chn l (a.take n) := by
  rw [← List.take_append_drop n a, chn_append] at h
  exact h.1
theorem chn_ge : ∀ (a : List Rec) (l : Nat), chn l a → l ≤ lastIx l a
  | [], l, _ => Nat.le_refl _
  | r :: a, l, h => by
    have := chn_ge a r.index h.2
    rw [lastIx]
    rcases h.1 with h1 | h1 <;> omega
/-- The i-th index, counted from the first. -/
theorem chn_get : ∀ (a : List Rec) (l i : Nat) (r s : Rec), okAll (s :: a) → chn l (s :: a) → (s :: a)[i]? = some r → r.index = s.index + i
  | _, l, 0, r, s, _, _, h => by simp at h; rw [h]; rfl
  | [], l, i + 1, r, s, _, _, h => by simp at h
  | t :: a, l, i + 1, r, s, ho, hc, h => by
    have := chn_get a s.index i r t (fun x hx => ho x (List.mem_cons_of_mem _ hx)) hc.2 (by simpa using h)
    have h1 := hc.2.1
    have h2 := (ho s List.mem_cons_self).1
    omega
theorem lastIx_eq (a : List Rec) (l : Nat) : lastIx l a = (a.getLast?.map Rec.index).getD l := by
  induction a generalizing l with
  | nil => rfl
  | cons r a ih =>
    rw [lastIx, ih]
    cases a with
    | nil => rfl
    | cons s a => simp [List.getLast?_cons]
end WalMath

