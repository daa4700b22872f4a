import Derived.Test.YtgfoogeiancecaaGreatDoorHw25
import Derived.Test.YtgfoogeiancecaaGreatDoorHw26
import Derived.Laws.Cover3
import Derived.Deep.RegionWith
/- The contracts of the program's small functions: a copy of bytes and of a text, which names may be, whether a disk was given, a file by its name. -/
namespace Go.Proofs.YtgfoogeiancecaaGreatDoor
open Go.RowKit DiskMath
set_option maxRecDepth 100000
set_option linter.unusedSimpArgs false
set_option linter.unusedVariables false

set_option maxHeartbeats 1000000 in
theorem clone_of [Keep] (n₀ : Nat) (l : List Nat) (v : Value) (w : World) (hB : Bs n₀ w v l) (hn₀ : n₀ ≤ w.heap.size) (hlen : l.length ≤ 140737488355328) :
    Calls Tryz.prog 79 #[v] w fun e w' => ∃ v', e = .returned v' ∧ Own w.heap.size w' v' l ∧ Below w.heap.size w w' := by
  obtain ⟨ao, cap, rfl, h2, h3, h4, h5⟩ := id hB
  cases ao with
  | none =>
    have h0 := h4 rfl
    subst h0
    obtain rfl : l = [] := List.eq_nil_of_length_eq_zero (by omega)
    have hnil : ∀ w', (binOp .eql 32 (.slice none 0 0) (.slice none 0 0)).run Tryz.prog w' = .ok (.bool true) w' := fun w' => Lib.run_eql_slice_nil w' 32 5 none 0 0 0 0 Tryz.underlying32
    clear hB h2 h3 h4 h5
    show Calls _ _ #[.slice none 0 0] _ _
    go_enter Tryz.func79, Tryz.ntmps79
    go_wp2
    go_ret
    exact ⟨_, rfl, Own.nil _ _, Below.refl _ _⟩
  | some a =>
    have hO := own_new w #[] [] rfl (by simp)
    have hb1 := (Below.refl w.heap.size w).alloc (Nat.le_refl _) (.cells #[] 5)
    have hB1 := hB.below (hb1.mono hn₀)
    have hnil : ∀ w', (binOp .eql 32 (.slice (some a) l.length cap) (.slice none 0 0)).run Tryz.prog w' = .ok (.bool false) w' := fun w' => Lib.run_eql_slice_nil w' 32 5 (some a) l.length cap 0 0 Tryz.underlying32
    clear hB h2 h3 h4 h5
    go_enter Tryz.func79, Tryz.ntmps79
    go_wp2_with (at_builtin; refine wpList_append_bs rfl _ _ rfl w.heap.size _ [] rfl hO hb1.size n₀ _ l rfl hB1 ?c1 ?_)
    case c1 => simp; omega
    intro v4 w4 hO4 hb4
    go_wp2
    go_ret
    exact ⟨_, rfl, hO4, hb1.trans hb4⟩

theorem sclone_of (s : ByteArray) (w : World) (hs : s.size ≤ 1000) : Calls Tryz.prog 97 #[.string s] w fun e w' => e = .returned (.string s) ∧ Below w.heap.size w w' := by
  have hc : Calls Tryz.prog 116 #[.string s] w fun e w' => e = .returned (.string s) ∧ Below w.heap.size w w' := AnyPu.stringslite_Clone Tryz.clone116 s w (by omega)
  go_enter Tryz.func97, Tryz.ntmps97
  go_wp2_with fail
  refine hc.mono ?_
  rintro e w1 ⟨rfl, hb⟩
  go_wp2
  go_ret
  exact ⟨rfl, hb⟩

set_option maxHeartbeats 1000000 in
theorem byteMay_of (c : Nat) (w : World) : Calls Tryz.prog 96 #[.int .u8 (c : Int)] w fun e w' => e = .returned (.bool (mayByte c)) ∧ w' = w := by
  obtain ⟨B, HB⟩ : ∃ B, Hid (B = mayByte c) := ⟨_, rfl⟩
  rw [← HB.out]
  by_cases k1 : 97 ≤ c
  · have k1i : (97 : Int) ≤ (c : Int) := by omega
    by_cases k2 : c ≤ 122
    · have E : Hid (B = true) := by show _ = _; rw [HB.out]; unfold mayByte; simp; omega
      have y0 : (c : Int) ≤ 122 := by omega
      clear HB
      go_enter Tryz.func96, Tryz.ntmps96
      go_wp2
      go_ret
      exact ⟨by rw [E.out]; rfl, rfl⟩
    · have E : Hid (B = false) := by show _ = _; rw [HB.out]; unfold mayByte; simp; omega
      have y0 : ¬ (c : Int) ≤ 122 := by omega
      have y1 : (48 : Int) ≤ (c : Int) := by omega
      have y2 : ¬ (c : Int) ≤ 57 := by omega
      have z46 : ((c : Int) == 46) = false := by simp; omega
      have z45 : ((c : Int) == 45) = false := by simp; omega
      clear HB
      go_enter Tryz.func96, Tryz.ntmps96
      go_wp2
      go_ret
      exact ⟨by rw [E.out]; rfl, rfl⟩
  · have k1i : ¬ (97 : Int) ≤ (c : Int) := by omega
    by_cases k3 : 48 ≤ c
    · have k3i : (48 : Int) ≤ (c : Int) := by omega
      by_cases k2 : c ≤ 57
      · have E : Hid (B = true) := by show _ = _; rw [HB.out]; unfold mayByte; simp; omega
        have y0 : (c : Int) ≤ 57 := by omega
        clear HB
        go_enter Tryz.func96, Tryz.ntmps96
        go_wp2
        go_ret
        exact ⟨by rw [E.out]; rfl, rfl⟩
      · have E : Hid (B = false) := by show _ = _; rw [HB.out]; unfold mayByte; simp; omega
        have y0 : ¬ (c : Int) ≤ 57 := by omega
        have z46 : ((c : Int) == 46) = false := by simp; omega
        have z45 : ((c : Int) == 45) = false := by simp; omega
        clear HB
        go_enter Tryz.func96, Tryz.ntmps96
        go_wp2
        go_ret
        exact ⟨by rw [E.out]; rfl, rfl⟩
    · have k3i : ¬ (48 : Int) ≤ (c : Int) := by omega
      by_cases k4 : c = 46
      · have E : Hid (B = true) := by show _ = _; rw [HB.out]; unfold mayByte; simp; omega
        have z46 : ((c : Int) == 46) = true := by simp; omega
        clear HB
        go_enter Tryz.func96, Tryz.ntmps96
        go_wp2
        go_ret
        exact ⟨by rw [E.out]; rfl, rfl⟩
      · have z46 : ((c : Int) == 46) = false := by simp; omega
        by_cases k5 : c = 45
        · have E : Hid (B = true) := by show _ = _; rw [HB.out]; unfold mayByte; simp; omega
          have z45 : ((c : Int) == 45) = true := by simp; omega
          clear HB
          go_enter Tryz.func96, Tryz.ntmps96
          go_wp2
          go_ret
          exact ⟨by rw [E.out]; rfl, rfl⟩
        · have E : Hid (B = false) := by show _ = _; rw [HB.out]; unfold mayByte; simp; omega
          have z45 : ((c : Int) == 45) = false := by simp; omega
          clear HB
          go_enter Tryz.func96, Tryz.ntmps96
          go_wp2
          go_ret
          exact ⟨by rw [E.out]; rfl, rfl⟩

set_option maxHeartbeats 1000000 in
theorem nameMay_of (s : ByteArray) (w : World) : Calls Tryz.prog 73 #[.string s] w fun e w' => e = .returned (.bool (mayName s)) ∧ w' = w := by
  obtain ⟨B, HB⟩ : ∃ B, Hid (B = mayName s) := ⟨_, rfl⟩
  rw [← HB.out]
  by_cases h1 : s.size < 1
  · have E : Hid (B = false) := by
      show _ = _
      rw [HB.out]
      unfold mayName
      rw [decide_eq_false (by omega)]
      rfl
    have i1 : (s.size : Int) < 1 := by omega
    clear HB
    go_enter Tryz.func73, Tryz.ntmps73
    go_wp2
    go_ret
    exact ⟨by rw [E.out]; rfl, rfl⟩
  have i1 : ¬ (s.size : Int) < 1 := by omega
  by_cases h2 : 32 < s.size
  · have E : Hid (B = false) := by
      show _ = _
      rw [HB.out]
      unfold mayName
      rw [decide_eq_false (p := s.size ≤ 32) (by omega)]
      simp
    have i2 : (32 : Int) < (s.size : Int) := by omega
    clear HB
    go_enter Tryz.func73, Tryz.ntmps73
    go_wp2
    go_ret
    exact ⟨by rw [E.out]; rfl, rfl⟩
  have i2 : ¬ (32 : Int) < (s.size : Int) := by omega
  have EB : Hid (B = s.data.toList.all fun c => mayByte c.toNat) := by
    show _ = _
    rw [HB.out]
    unfold mayName
    rw [decide_eq_true (p := 1 ≤ s.size) (by omega), decide_eq_true (p := s.size ≤ 32) (by omega)]
    rfl
  clear HB
  go_enter Tryz.func73, Tryz.ntmps73
  go_wp2
  go_loopg [14] s.size (fun g s3 wr => ∃ i : Nat, i + g = s.size ∧ s3 = .int .i64 (i : Int) ∧ Hid (∀ (j : Nat) (c : UInt8), j < i → s.data.toList[j]? = some c → mayByte c.toNat = true) ∧ wr = w)
  case atStart => exact ⟨0, by simp, rfl, fun _ _ h => by omega, rfl⟩
  case round =>
    obtain ⟨i, hi, rfl, H, rfl⟩ := hrel
    by_cases hlt : i < s.size
    · have hlti : (i : Int) < (s.size : Int) := by omega
      have hsz : s.data.toList.length = s.size := rfl
      have hgi : s.data.toList[i]? = some s[i] := by
        rw [List.getElem?_eq_getElem (by omega)]
        rfl
      obtain ⟨c, hcv⟩ : ∃ c : Nat, s[i].toNat = c := ⟨_, rfl⟩
      have hby := byteMay_of c wr
      cases hcb : mayByte c with
      | true =>
        have H' : Hid (∀ (j : Nat) (c : UInt8), j < i + 1 → s.data.toList[j]? = some c → mayByte c.toNat = true) := by
          intro j x hj hx
          by_cases hji : j = i
          · subst hji
            rw [hgi] at hx
            cases hx
            rw [hcv]
            exact hcb
          · exact H.out j x (by omega) hx
        rw [hcb] at hby
        clear hgi H hsz EB
        go_wp2_with fail
        refine hby.mono ?_
        rintro e w1 ⟨rfl, hw1⟩
        rw [hw1]
        clear hw1 w1
        go_wp2
        go_roundg (gk - 1)
        case measure => omega
        case rel => exact ⟨i + 1, by omega, by go_num, H', rfl⟩
      | false =>
        have E : Hid (B = false) := by
          show _ = _
          rw [EB.out, Bool.eq_false_iff]
          intro ha
          have := List.all_eq_true.1 ha s[i] (List.mem_of_getElem? hgi)
          rw [hcv, hcb] at this
          cases this
        rw [hcb] at hby
        clear hgi H hsz EB
        go_wp2_with fail
        refine hby.mono ?_
        rintro e w1 ⟨rfl, hw1⟩
        rw [hw1]
        clear hw1 w1
        go_wp2
        go_ret
        exact ⟨by rw [E.out]; rfl, rfl⟩
    · have hlti : ¬ (i : Int) < (s.size : Int) := by omega
      have E : Hid (B = true) := by
        show _ = _
        rw [EB.out, List.all_eq_true]
        intro x hx
        obtain ⟨j, hj⟩ := List.mem_iff_getElem?.1 hx
        have hjl := (List.getElem?_eq_some_iff.1 hj).1
        have hsz : s.data.toList.length = s.size := rfl
        exact H.out j x (by omega) hj
      go_wp2
      go_ret
      exact ⟨by rw [E.out]; rfl, rfl⟩
end Go.Proofs.YtgfoogeiancecaaGreatDoor

/- The contracts of the program's given, find and keep. -/
namespace Go.Proofs.YtgfoogeiancecaaGreatDoor
open Go.RowKit DiskMath
set_option maxRecDepth 100000
set_option linter.unusedSimpArgs false
set_option linter.unusedVariables false

theorem DiskAt.cell {ρ : Mark} {M : ByteArray → Option Value} {w : World} {q m : Nat} {fs : Files} (h : DiskAt ρ M w q m fs) : w.cell? ⟨q, 0, none⟩ = some (.map (some m)) := by
  rw [cells_of_block h.block]; rfl
theorem may_size {n : ByteArray} (h : mayName n = true) : 1 ≤ n.size ∧ n.size ≤ 32 := by
  unfold mayName at h
  simp only [Bool.and_eq_true, decide_eq_true_eq] at h
  exact h.1
theorem DiskAt.zeroF (w : World) : (zeroValue 84).run Tryz.prog w = .ok (.pointer none) w := Tryz.zeroValue84 w

set_option maxHeartbeats 1000000 in
theorem given_of {ρ : Mark} {M : ByteArray → Option Value} {w : World} {q m : Nat} {fs : Files} (h : DiskAt ρ M w q m fs) :
    Calls Tryz.prog 38 #[.pointer (some ⟨q, 0, none⟩)] w fun e w' => e = .returned (.bool true) ∧ w' = w := by
  have hc := h.cell
  have hne : ∀ w', (binOp .neq 50 (.map (some m)) (.map none)).run Tryz.prog w' = .ok (.bool true) w' := fun w' => run_neq_map_nil w' 50 9 84 (some m) Tryz.underlying50
  clear h
  go_enter Tryz.func38, Tryz.ntmps38
  go_wp2
  go_ret
  exact ⟨rfl, rfl⟩

/-- What find tells. -/
def FindT (M : ByteArray → Option Value) (n : ByteArray) (e : Ending) : Prop :=
  e = .returned (match M n with | none => .tuple #[.pointer none, .int .i64 4] | some v => .tuple #[v, .int .i64 0])

set_option maxHeartbeats 1000000 in
theorem find_of {ρ : Mark} {M : ByteArray → Option Value} {w : World} {q m : Nat} {fs : Files} (n : ByteArray) (h : DiskAt ρ M w q m fs) (hn : n.size ≤ maxLen) :
    Calls Tryz.prog 62 #[.pointer (some ⟨q, 0, none⟩), .string n] w fun e w' => FindT M n e ∧ w' = w := by
  have hc := h.cell
  have hg := given_of h
  have hM := h.map
  have hmt := Tryz.underlying50
  have hz := DiskAt.zeroF w
  generalize fs.length = c at hM
  clear h
  cases hm : M n with
  | none =>
    go_enter Tryz.func62, Tryz.ntmps62
    go_wp2_with fail
    refine hg.mono ?_
    rintro e w1 ⟨rfl, hw1⟩
    rw [hw1]
    clear hw1 w1 hg
    go_wp2_with (refine wp_mp_look rfl _ _ _ _ rfl hmt hz m c M hM rfl n rfl hn ?_)
    go_ret2
    exact ⟨by unfold FindT; rw [hm]; rfl, rfl⟩
  | some v =>
    go_enter Tryz.func62, Tryz.ntmps62
    go_wp2_with fail
    refine hg.mono ?_
    rintro e w1 ⟨rfl, hw1⟩
    rw [hw1]
    clear hw1 w1 hg
    go_wp2_with (refine wp_mp_look rfl _ _ _ _ rfl hmt hz m c M hM rfl n rfl hn ?_)
    go_ret2
    exact ⟨by unfold FindT; rw [hm]; rfl, rfl⟩
end Go.Proofs.YtgfoogeiancecaaGreatDoor

/- The contract of the program's keep: a file has a name. -/
namespace Go.Proofs.YtgfoogeiancecaaGreatDoor
open Go.RowKit DiskMath Go.Maps
set_option maxRecDepth 100000
set_option linter.unusedSimpArgs false
set_option linter.unusedVariables false

/-- A store into the map, as an equation on the run. -/
theorem run_mp_put {w : World} {m c : Nat} {M : ByteArray → Option Value} (n : ByteArray) (u : Value) (hM : Mp w m M c) (hc : c < maxLen) (hn : n.size ≤ maxLen) :
    ∃ w', (Instr.mapUpdate 50 (.map (some m)) (.string n) u).run Tryz.prog w = .ok () w' ∧ Mp w' m (upd M n (some u)) (if M n = none then c + 1 else c) ∧ w.grownBy w' (some m) := by
  obtain ⟨D, h1, h2, h3⟩ := hM
  obtain ⟨w', hrun, ho, hgr⟩ := h1.update keyed Tryz.underlying50 hc (key_of hn) (d := .held u) (ps := []) rfl
  have hsz : Maps.size (D.put (keyLit n) (.held u)) = if M n = none then c + 1 else c := by
    rw [size_put (h1.tidy keyed), Mp.has h3, h2]
    cases hms : M n <;> simp
  refine ⟨w', hrun, ⟨_, ?_, hsz, fun t' z => ?_⟩, hgr⟩
  · have := own_size ho
    rw [hsz] at this
    exact this
  · unfold upd
    by_cases ht' : t' = n
    · subst ht'
      rw [if_pos rfl, atKey_put_same h1.isMap (keyLit_key _)]
    · rw [if_neg ht', atKey_put_other (fun e => ht' (keyLit_inj e)), h3]

theorem grown_after {w w1 w2 : World} {row : Option Nat} (hb : Below w.heap.size w w1) (hg : w1.grownBy w2 row) : w.grownBy w2 row :=
  ⟨hg.os.trans hb.os, hg.tape.trans hb.tape, hg.output.trans hb.output, Nat.le_trans hb.size hg.size, fun i hi hne => (hg.block i (Nat.lt_of_lt_of_le hi hb.size) hne).trans (hb.block i hi)⟩

/-- What keep leaves. -/
def KeepT (w : World) (m c : Nat) (M : ByteArray → Option Value) (n : ByteArray) (u : Value) (e : Ending) (w' : World) : Prop :=
  e = .returned (.tuple #[]) ∧ Mp w' m (upd M n (some u)) (if M n = none then c + 1 else c) ∧ w.grownBy w' (some m)

set_option maxHeartbeats 1000000 in
theorem keep_of {w : World} {q m c : Nat} {M : ByteArray → Option Value} (n : ByteArray) (u : Value) (hq : w.cell? ⟨q, 0, none⟩ = some (.map (some m))) (hM : Mp w m M c) (hc : c < maxLen) (hn : n.size ≤ 1000) :
    Calls Tryz.prog 74 #[.pointer (some ⟨q, 0, none⟩), .string n, u] w (KeepT w m c M n u) := by
  have hs := sclone_of n w.drew hn
  have hput : ∀ w1, Below w.heap.size w.drew w1 → ∃ w2, (Instr.mapUpdate 50 (.map (some m)) (.string n) u).run Tryz.prog w1 = .ok () w2 ∧ KeepT w m c M n u (.returned (.tuple #[])) w2 := fun w1 hb => by
    have hb' : Below w.heap.size w w1 := (below_drewN (Below.refl _ w) 1).trans hb
    obtain ⟨w2, h1, h2, h3⟩ := run_mp_put n u (hM.below hb') hc (by unfold maxLen; omega)
    exact ⟨w2, h1, rfl, h2, grown_after hb' h3⟩
  have hq1 : ∀ w1, Below w.heap.size w.drew w1 → w1.cell? ⟨q, 0, none⟩ = some (.map (some m)) := fun w1 hb => (hb.cell (p := ⟨q, 0, none⟩) (World.block_lt_of_cell? w _ hq)).trans hq
  generalize KeepT w m c M n u = T at *
  clear hM
  go_enter Tryz.func74, Tryz.ntmps74
  go_wp2
  go_region_with (go_at_call 97; refine hs.mono ?_; rintro e w1 ⟨rfl, hb⟩; obtain ⟨w2, hrun, hT⟩ := hput w1 hb; have hq2 := hq1 w1 hb)
  all_goals
    go_end0
    exact hT
end Go.Proofs.YtgfoogeiancecaaGreatDoor

