/- The contract of the program's Join: frames, one behind the other, in memory of the call's own; what lay in memory before stays as it was. -/
import Derived.Test.YtlminobaohkalaaDoorSame
import Derived.Deep.RegionHeld3
namespace Go.Proofs.YtlminobaohkalaaDoor
open Go.RowKit WireMath CrcMath FrameMath
set_option maxRecDepth 100000
set_option linter.unusedSimpArgs false

theorem Dv.below {w w' : World} {dv : Value} {ds : List (List Nat)} (h : Dv w dv ds) (hb : Below w.heap.size w w') : Dv w' dv ds := by
  obtain ⟨ao, cap, e, h2⟩ := h
  refine ⟨ao, cap, e, fun i d hd => ?_⟩
  obtain ⟨b, off, sv, r1, r2, r3⟩ := h2 i d hd
  exact ⟨b, off, sv, r1, (hb.cell (p := ⟨b, off + i, none⟩) (World.block_lt_of_cell? w _ r2)).trans r2, (r3.below hb).mono hb.size⟩
theorem Iv.below {w w' : World} {ov : Value} {fs : List (Nat × List Nat)} (h : Iv w ov fs) (hb : Below w.heap.size w w') : Iv w' ov fs := by
  obtain ⟨ao, cap, e, h2⟩ := h
  refine ⟨ao, cap, e, fun i x hx => ?_⟩
  obtain ⟨b, off, sv, r1, r2, r3, r4⟩ := h2 i x hx
  exact ⟨b, off, sv, r1, (hb.cell (p := ⟨b, off + i * 2, none⟩) (World.block_lt_of_cell? w _ r2)).trans r2, (hb.cell (p := ⟨b, off + i * 2 + 1, none⟩) (World.block_lt_of_cell? w _ r3)).trans r3, (r4.below hb).mono hb.size⟩

/-- How many bytes frames take at most. -/
def room (fs : List (Nat × List Nat)) : Nat := (fs.map fun x => x.2.length + 15).sum
theorem join_room : ∀ (fs : List (Nat × List Nat)), room fs ≤ 100000 → (join fs).length ≤ room fs
  | [], _ => by simp [join]
  | (k, d) :: fs, h => by
    have hr : room ((k, d) :: fs) = d.length + 15 + room fs := by simp [room]
    rw [hr] at h ⊢
    have ih := join_room fs (by omega)
    rw [join_cons, List.length_append, frameB_length]
    have := uv_len10 (n := d.length + 5) (by omega)
    omega
theorem join_snoc (fs : List (Nat × List Nat)) (k : Nat) (d : List Nat) : join (fs ++ [(k, d)]) = join fs ++ frameB k d := by simp [join]
theorem room_take (fs : List (Nat × List Nat)) (j : Nat) : room (fs.take j) ≤ room fs := by
  have h : room fs = room (fs.take j) + room (fs.drop j) := by
    conv => lhs; rw [← List.take_append_drop j fs]
    simp only [room, List.map_append, List.sum_append]
  omega
theorem room_mem {fs : List (Nat × List Nat)} {x : Nat × List Nat} (h : x ∈ fs) : x.2.length + 15 ≤ room fs := by
  induction fs with
  | nil => cases h
  | cons y fs ih =>
    have hr : room (y :: fs) = y.2.length + 15 + room fs := by simp [room]
    rcases List.mem_cons.1 h with rfl | h
    · omega
    · have := ih h; omega

set_option maxHeartbeats 1000000 in
theorem join_of (ks : List Nat) (ds : List (List Nat)) (kv dv : Value) (w : World) (hT : Tab w) (hK : Bs w.heap.size w kv ks) (hD : Dv w dv ds) (hk : ∀ c ∈ ks, c < 256) (hd : ∀ d ∈ ds, ∀ c ∈ d, c < 256) (hr : room (ks.zip ds) ≤ 100000) (hsm : ds.length ≤ 1000000) :
    Calls Tryd.prog 16 #[kv, dv] w fun e w' => ∃ jv, e = .returned (.tuple #[jv, .int .i64 0]) ∧ Own w.heap.size w' jv (join (ks.zip ds)) ∧ Below w.heap.size w w' := by
  obtain ⟨ak, ck, rfl, h2, h3, h4, h5⟩ := id hK
  obtain ⟨ad, cd, rfl, hdd⟩ := id hD
  have hkm : (ks.length : Int) ≤ 9223372036854775807 := by unfold maxLen at h3; omega
  have hzl : (ks.zip ds).length = min ks.length ds.length := List.length_zip
  have body : ∀ m : Nat, m = (ks.zip ds).length → ∀ i, i < m → ∃ k d, (ks.zip ds)[i]? = some (k, d) ∧ ks[i]? = some k ∧ ds[i]? = some d ∧ (ks.zip ds).take (i + 1) = (ks.zip ds).take i ++ [(k, d)] := by
    intro m hm i hi
    have hi' : i < (ks.zip ds).length := by omega
    have h1 : i < ks.length := by omega
    have h2 : i < ds.length := by omega
    refine ⟨ks[i], ds[i], ?_, List.getElem?_eq_getElem h1, List.getElem?_eq_getElem h2, ?_⟩
    · rw [List.getElem?_eq_getElem hi', List.getElem_zip]
    · rw [List.take_succ_eq_append_getElem hi', List.getElem_zip]
  obtain ⟨F, hFF⟩ : ∃ F, F = ks.zip ds := ⟨_, rfl⟩
  rw [← hFF] at body hr hzl ⊢
  clear hFF
  by_cases hlt : ds.length < ks.length
  · have hlti : (ds.length : Int) < (ks.length : Int) := by omega
    have hm : F.length = ds.length := by omega
    go_enter Tryd.func16, Tryd.ntmps16
    go_wp2
    go_loopg [6, 15] ds.length (fun g s6 s15 wr => ∃ i : Nat, i + g = ds.length ∧ s15 = .int .i64 (i : Int) ∧ Own w.heap.size wr s6 (join (F.take i)) ∧ Below w.heap.size w wr)
    case atStart => exact ⟨0, by simp, rfl, Own.nil _ _, Below.refl _ _⟩
    case round =>
      obtain ⟨i, hi, rfl, hO, hbel⟩ := hrel
      by_cases hil : i < ds.length
      · have hili : (i : Int) < (ds.length : Int) := by omega
        have hilk : (i : Int) < (ks.length : Int) := by omega
        obtain ⟨k, d, hF, hk1, hd1, htk⟩ := body ds.length hm.symm i hil
        obtain ⟨bk, ok, rfl, hbk, hck⟩ := h5 (by rintro rfl; simp at hk1)
        have c1 := hck i k hk1
        obtain ⟨bd, od, sv, rfl, c2, hBd⟩ := hdd i d hd1
        have c1' := (hbel.cell (p := ⟨bk, ok + i, none⟩) hbk).trans c1
        have c2' := (hbel.cell (p := ⟨bd, od + i, none⟩) (World.block_lt_of_cell? w _ c2)).trans c2
        have hk256 := hk k (List.mem_of_getElem? hk1)
        have hd256 := hd d (List.mem_of_getElem? hd1)
        have hroom := room_mem (List.mem_of_getElem? hF)
        have hjl := join_room (F.take i) (Nat.le_trans (room_take F i) hr)
        have hrt := room_take F i
        have kp : ∀ w', Below w.heap.size w w' → Calls Tryd.prog 8 #[.int .u8 (k : Int), sv] w' _ := fun w' hb => put_of k d _ sv w' (hT.below' hb (Nat.le_refl _)) (hBd.below hb) hk256 hd256 hb.size (by simp only at hroom; omega)
        have hfl : (frameB k d).length ≤ 200000 := by
          rw [frameB_length]
          have := uv_len10 (n := d.length + 5) (by simp only at hroom; omega)
          simp only at hroom
          omega
        have E : Hid (join (F.take (i + 1)) = join (F.take i) ++ frameB k d) := by
          show _ = _
          rw [htk, join_snoc]
        obtain ⟨asv, csv, rfl, -⟩ := id hBd
        generalize frameB k d = B at *
        generalize join (F.take i) = J at *
        clear hck hdd h5 hK hD body hF hk1 hd1 htk hBd
        have hdr : Below wr.heap.size wr wr.drew := (Below.refl _ _).drew
        have kp1 := kp wr.drew hbel.drew
        have hcs : ∀ w', Below wr.heap.size wr w' → w'.cell? ⟨bk, ok + i, none⟩ = some (.int .u8 (k : Int)) ∧ w'.cell? ⟨bd, od + i, none⟩ = some (.slice asv d.length csv) := fun w' hb => ⟨(hb.cell (p := ⟨bk, ok + i, none⟩) (World.block_lt_of_cell? wr _ c1')).trans c1', (hb.cell (p := ⟨bd, od + i, none⟩) (World.block_lt_of_cell? wr _ c2')).trans c2'⟩
        clear c1 c2 c1' c2' kp
        go_wp2
        go_region_held3 (fun w' => w'.cell? ⟨bk, ok + i, none⟩ = some (.int .u8 (k : Int)) ∧ w'.cell? ⟨bd, od + i, none⟩ = some (.slice asv d.length csv))
          (first | exact x4 | exact hcs _ hdr | go_keep)
          ((go_at_call 8; refine kp1.mono ?_; rintro e w4 ⟨v4, rfl, hO4, hb4⟩; have hbel4 := hdr.trans hb4; have x4 := hcs _ hbel4))
        have hbw4 : Below w.heap.size w w4 := hbel.trans (hbel4.mono hbel.size)
        have hJ4 := hO.below hbel4
        have hB4 := hO4.bs
        obtain ⟨a4, cap4, rfl⟩ := hO4.shape
        have hcl : J.length + B.length ≤ 140737488355328 := by omega
        clear hcs x4 kp1 hO hO4
        go_wp2_with (at_builtin; refine wpList_append_bs rfl _ _ rfl w.heap.size _ J rfl hJ4 hbw4.size _ _ B rfl hB4 hcl ?_)
        intro v5 w5 hO5 hb5
        go_wp2
        go_roundg (gk - 1)
        case measure => omega
        case rel => exact ⟨i + 1, by omega, by go_num, by rw [E.out]; exact hO5, hbw4.trans hb5⟩
      · have hili : ¬ (i : Int) < (ds.length : Int) := by omega
        rw [List.take_of_length_le (by omega)] at hO
        go_wp2
        go_ret2
        exact ⟨_, rfl, hO, hbel⟩
  · have hlti : ¬ (ds.length : Int) < (ks.length : Int) := by omega
    have hm : F.length = ks.length := by omega
    go_enter Tryd.func16, Tryd.ntmps16
    go_wp2
    go_loopg [6, 15] ks.length (fun g s6 s15 wr => ∃ i : Nat, i + g = ks.length ∧ s15 = .int .i64 (i : Int) ∧ Own w.heap.size wr s6 (join (F.take i)) ∧ Below w.heap.size w wr)
    case atStart => exact ⟨0, by simp, rfl, Own.nil _ _, Below.refl _ _⟩
    case round =>
      obtain ⟨i, hi, rfl, hO, hbel⟩ := hrel
      by_cases hil : i < ks.length
      · have hili : (i : Int) < (ds.length : Int) := by omega
        have hilk : (i : Int) < (ks.length : Int) := by omega
        obtain ⟨k, d, hF, hk1, hd1, htk⟩ := body ks.length hm.symm i hil
        obtain ⟨bk, ok, rfl, hbk, hck⟩ := h5 (by rintro rfl; simp at hk1)
        have c1 := hck i k hk1
        obtain ⟨bd, od, sv, rfl, c2, hBd⟩ := hdd i d hd1
        have c1' := (hbel.cell (p := ⟨bk, ok + i, none⟩) hbk).trans c1
        have c2' := (hbel.cell (p := ⟨bd, od + i, none⟩) (World.block_lt_of_cell? w _ c2)).trans c2
        have hk256 := hk k (List.mem_of_getElem? hk1)
        have hd256 := hd d (List.mem_of_getElem? hd1)
        have hroom := room_mem (List.mem_of_getElem? hF)
        have hjl := join_room (F.take i) (Nat.le_trans (room_take F i) hr)
        have hrt := room_take F i
        have kp : ∀ w', Below w.heap.size w w' → Calls Tryd.prog 8 #[.int .u8 (k : Int), sv] w' _ := fun w' hb => put_of k d _ sv w' (hT.below' hb (Nat.le_refl _)) (hBd.below hb) hk256 hd256 hb.size (by simp only at hroom; omega)
        have hfl : (frameB k d).length ≤ 200000 := by
          rw [frameB_length]
          have := uv_len10 (n := d.length + 5) (by simp only at hroom; omega)
          simp only at hroom
          omega
        have E : Hid (join (F.take (i + 1)) = join (F.take i) ++ frameB k d) := by
          show _ = _
          rw [htk, join_snoc]
        obtain ⟨asv, csv, rfl, -⟩ := id hBd
        generalize frameB k d = B at *
        generalize join (F.take i) = J at *
        clear hck hdd h5 hK hD body hF hk1 hd1 htk hBd
        have hdr : Below wr.heap.size wr wr.drew := (Below.refl _ _).drew
        have kp1 := kp wr.drew hbel.drew
        have hcs : ∀ w', Below wr.heap.size wr w' → w'.cell? ⟨bk, ok + i, none⟩ = some (.int .u8 (k : Int)) ∧ w'.cell? ⟨bd, od + i, none⟩ = some (.slice asv d.length csv) := fun w' hb => ⟨(hb.cell (p := ⟨bk, ok + i, none⟩) (World.block_lt_of_cell? wr _ c1')).trans c1', (hb.cell (p := ⟨bd, od + i, none⟩) (World.block_lt_of_cell? wr _ c2')).trans c2'⟩
        clear c1 c2 c1' c2' kp
        go_wp2
        go_region_held3 (fun w' => w'.cell? ⟨bk, ok + i, none⟩ = some (.int .u8 (k : Int)) ∧ w'.cell? ⟨bd, od + i, none⟩ = some (.slice asv d.length csv))
          (first | exact x4 | exact hcs _ hdr | go_keep)
          ((go_at_call 8; refine kp1.mono ?_; rintro e w4 ⟨v4, rfl, hO4, hb4⟩; have hbel4 := hdr.trans hb4; have x4 := hcs _ hbel4))
        have hbw4 : Below w.heap.size w w4 := hbel.trans (hbel4.mono hbel.size)
        have hJ4 := hO.below hbel4
        have hB4 := hO4.bs
        obtain ⟨a4, cap4, rfl⟩ := hO4.shape
        have hcl : J.length + B.length ≤ 140737488355328 := by omega
        clear hcs x4 kp1 hO hO4
        go_wp2_with (at_builtin; refine wpList_append_bs rfl _ _ rfl w.heap.size _ J rfl hJ4 hbw4.size _ _ B rfl hB4 hcl ?_)
        intro v5 w5 hO5 hb5
        go_wp2
        go_roundg (gk - 1)
        case measure => omega
        case rel => exact ⟨i + 1, by omega, by go_num, by rw [E.out]; exact hO5, hbw4.trans hb5⟩
      · have hili : ¬ (i : Int) < (ks.length : Int) := by omega
        rw [List.take_of_length_le (by omega)] at hO
        go_wp2
        go_ret2
        exact ⟨_, rfl, hO, hbel⟩
end Go.Proofs.YtlminobaohkalaaDoor
