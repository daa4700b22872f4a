import Derived.Test.YtfpbgfmnjpamlaaGreatHu33
import Derived.Test.YtfpbgfmnjpamlaaGreatHu31
import Derived.Test.YtfpbgfmnjpamlaaGreatHu34
import Derived.Test.YtfpbgfmnjpamlaaGreatHu35
/- What Prepare and Finish tell may be; whose the keys are then. -/
namespace Go.Proofs.YtfpbgfmnjpamlaaGreat
open Go.RowKit LeaseMath
set_option linter.unusedSimpArgs false
set_option linter.unusedVariables false

theorem locks_iff {sp : List Sp} {hs : List Hd} {ms : List Mk} : locksB sp hs ms = true ↔ mayB holdB hs = true ∧ mayB markB ms = true ∧ (∀ m ∈ ms, heldN hs m.1 = 0 ∧ inP sp m.1 = true) ∧ ∀ h ∈ hs, inP sp h.1 = true := by
 unfold locksB
 simp only [Bool.and_eq_true, List.all_eq_true, decide_eq_true_eq, and_assoc]
theorem ints_iff {sp : List Sp} {l : List It} : intsB sp l = true ↔ (∀ x ∈ l, intB sp x = true) ∧ l.Pairwise (fun a b => a.1 < b.1) := walk_iff
theorem ok_room {t : Tb} (h : okT t = true) : Room t t.ints.length := by
 obtain ⟨h1, h2, h3, h4, h5⟩ := okT_iff.1 h
 obtain ⟨l1, l2, l3, l4⟩ := locks_iff.1 h4
 exact ⟨h1, l1, l2, l3, l4, by unfold locksN at h3; omega⟩
theorem room_ok {t : Tb} (h : Room t t.ints.length) (h1 : spansB t = true) (h2 : intsB t.spans t.ints = true) : okT t = true :=
 okT_iff.2 ⟨h.now, h1, by have := h.len; unfold locksN; omega, locks_iff.2 ⟨h.holds, h.marks, h.free, h.mine⟩, h2⟩
theorem ref_all {t : Tb} {kd : Int} {ct tk : Nat} : ∀ {l : List K}, refAll t kd ct tk l = 0 → ∀ k ∈ l, refOne t kd ct tk k = 0
 | [], _, k, hk => absurd hk List.not_mem_nil
 | k :: l, h, y, hy => by
  rw [refAll] at h
  split at h
  ·rename_i h2; exact absurd h h2
  ·rename_i h2
   rcases List.mem_cons.1 hy with rfl | hy
   ·exact Classical.not_not.1 h2
   ·exact ref_all h y hy
theorem ref_in {t : Tb} {kd : Int} {ct tk : Nat} {k : K} (h : refOne t kd ct tk k = 0) : inP t.spans k = true ∧ itdB t.ints k = false := by
 unfold refOne at h
 split at h
 ·omega
 ·rename_i h1
  split at h
  ·omega
  ·rename_i h2
   exact ⟨by simpa using h1, by simp only [Bool.or_eq_true, not_or] at h2; simpa using h2.2⟩
/-- What is prepared may be, and is for just the call's keys. -/
theorem prep_ok {t : Tb} {d : Cq} {c : Cl} {tk : Nat} {M : List It} (hM_ : okT t = true → callB c = true → idB d = true → tk ≠ 0 → (mineM t.ints d).length = 0 → refAll t c.kind c.token tk c.keys = 0 → M.Perm (t.ints ++ moreM c.keys d c.kind (tokM c.kind c.token tk) c.ttl) ∧ M.Pairwise (fun a b => a.1 < b.1)) (h : (prepM t d c tk M).2 = 0) :
  okT (prepM t d c tk M).1 = true ∧ (mineM (prepM t d c tk M).1.ints d).map (fun x => x.1) = c.keys ∧ keysB c.keys = true := by
 unfold prepM at h ⊢
 split at h
 ·simp at h
 ·rename_i h0
  rw [if_neg h0]
  have h0' : (okT t && callB c && idB d && decide (tk ≠ 0)) = true := (Bool.not_eq_false _).mp h0
  simp only [Bool.and_eq_true, decide_eq_true_eq] at h0'
  obtain ⟨⟨⟨k1, k2⟩, k3⟩, k4⟩ := h0'
  obtain ⟨c1, c2, c3⟩ := callB_iff.1 k2
  obtain ⟨y1, y2, y3, y4⟩ := keysB_iff.1 c2
  split at h
  ·rename_i h1
   rw [if_pos h1]
   split at h
   ·rename_i h2
    rw [if_pos h2]
    exact ⟨k1, h2, c2⟩
   ·simp at h
  ·rename_i h1
   rw [if_neg h1]
   split at h
   ·rename_i h2; exact absurd h h2
   ·rename_i h2
    rw [if_neg h2]
    split at h
    ·simp at h
    ·rename_i h3
     rw [if_neg h3]
     obtain ⟨hp, hs⟩ := hM_ k1 k2 k3 k4 (by omega) (Classical.not_not.1 h2)
     have hr := ref_all (Classical.not_not.1 h2)
     obtain ⟨i1, i2⟩ := ints_iff.1 (okT_iff.1 k1).2.2.2.2
     have hmm : ∀ x, x ∈ moreM c.keys d c.kind (tokM c.kind c.token tk) c.ttl ↔ ∃ k ∈ c.keys, (k, d, c.kind, tokM c.kind c.token tk, c.ttl) = x := fun x => List.mem_map
     have htok : tokM c.kind c.token tk ≠ 0 := by
      unfold tokM
      split
      ·exact k4
      ·rename_i hk; exact fun h9 => hk (c3.1 h9)
     have hlen : M.length = t.ints.length + c.keys.length := by rw [hp.length_eq, List.length_append]; unfold moreM; rw [List.length_map]
     obtain ⟨a1, a2, a3, a4, a5, a6⟩ := ok_room k1
     refine ⟨room_ok ⟨a1, a2, a3, a4, a5, ?_⟩ (okT_iff.1 k1).2.1 (ints_iff.2 ⟨fun x hx => ?_, hs⟩), ?_, c2⟩
     ·show t.holds.length + t.marks.length + M.length ≤ 1024
      unfold locksN at h3
      omega
     ·show intB t.spans x = true
      rcases List.mem_append.1 (hp.mem_iff.1 hx) with hx | hx
      ·exact i1 x hx
      ·obtain ⟨k, hk, rfl⟩ := (hmm x).1 hx
       exact int_iff.2 ⟨k3, c1, htok, (ref_in (hr k hk)).1⟩
     ·have hnil : mineM t.ints d = [] := List.length_eq_zero_iff.1 (by omega)
      have hall : mineM (moreM c.keys d c.kind (tokM c.kind c.token tk) c.ttl) d = moreM c.keys d c.kind (tokM c.kind c.token tk) c.ttl := by
       unfold mineM
       rw [List.filter_eq_self]
       intro x hx
       obtain ⟨k, hk, rfl⟩ := (hmm x).1 hx
       simp
      have hpm : (mineM M d).Perm (moreM c.keys d c.kind (tokM c.kind c.token tk) c.ttl) := by
       have h7 : (mineM M d).Perm (mineM (t.ints ++ moreM c.keys d c.kind (tokM c.kind c.token tk) c.ttl) d) := hp.filter _
       have h8 : mineM (t.ints ++ moreM c.keys d c.kind (tokM c.kind c.token tk) c.ttl) d = mineM t.ints d ++ mineM (moreM c.keys d c.kind (tokM c.kind c.token tk) c.ttl) d := List.filter_append ..
       rw [h8, hnil, hall, List.nil_append] at h7
       exact h7
      have hm2 : (moreM c.keys d c.kind (tokM c.kind c.token tk) c.ttl).map (fun x => x.1) = c.keys := by
       unfold moreM
       rw [List.map_map]
       exact List.map_id _
      have hkp : ((mineM M d).map (fun x => x.1)).Perm c.keys := by
       have := hpm.map (fun x => x.1)
       rw [hm2] at this
       exact this
      have hsp : ((mineM M d).map (fun x => x.1)).Pairwise (· < ·) := by
       rw [List.pairwise_map]
       exact hs.sublist List.filter_sublist
      exact List.Perm.eq_of_pairwise (fun a b _ _ q1 q2 => absurd (klt_trans q1 q2) (by grind)) hsp y2 hkp
/-- The document's list is such a one. -/
theorem mrg_ok {t : Tb} {d : Cq} {c : Cl} {tk : Nat} (k1 : okT t = true) (k2 : callB c = true) (hr0 : refAll t c.kind c.token tk c.keys = 0) : (mrg t.ints (moreM c.keys d c.kind (tokM c.kind c.token tk) c.ttl)).Perm (t.ints ++ moreM c.keys d c.kind (tokM c.kind c.token tk) c.ttl) ∧ (mrg t.ints (moreM c.keys d c.kind (tokM c.kind c.token tk) c.ttl)).Pairwise (fun a b => a.1 < b.1) := by
 obtain ⟨c1, c2, c3⟩ := callB_iff.1 k2
 obtain ⟨y1, y2, y3, y4⟩ := keysB_iff.1 c2
 obtain ⟨i1, i2⟩ := ints_iff.1 (okT_iff.1 k1).2.2.2.2
 refine ⟨mrg_perm _ _, mrg_up i2 ?_ fun x hx y hy he => ?_⟩
 ·unfold moreM
  rw [List.pairwise_map]
  exact y2
 ·obtain ⟨k, hk, rfl⟩ := List.mem_map.1 hy
  have h9 := (ref_in (ref_all hr0 k hk)).2
  unfold itdB at h9
  rw [List.any_eq_false] at h9
  exact h9 x hx (by simpa using he)
end Go.Proofs.YtfpbgfmnjpamlaaGreat

