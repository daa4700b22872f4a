/- The law FrameBack: true at any kinds, any bytes (no longer than memory bears) and any place of a cut; what lay in memory before stays as it was. -/
import Derived.Test.YtlminobaohkalaaDoorJoins
import Derived.Test.YtlminobaohkalaaDoorAlls
import Derived.Deep.RegionHeld3
namespace Go.Proofs.YtlminobaohkalaaDoor
open Go.RowKit WireMath CrcMath FrameMath
set_option maxRecDepth 100000
set_option linter.unusedSimpArgs false

/-- Fuel for each byte is fuel enough. -/
theorem all_fuel : ∀ (f g : Nat) (l : List Nat), l.length ≤ f → l.length ≤ g → all f l = all g l := by
  intro f
  induction f with
  | zero =>
    intro g l hf _
    obtain rfl : l = [] := List.eq_nil_of_length_eq_zero (by omega)
    rw [all_nil, all_nil]
  | succ f ih =>
    intro g l hf hg
    by_cases h0 : l = []
    · subst h0
      rw [all_nil, all_nil]
    · have hpos : 0 < l.length := List.length_pos_iff.2 h0
      obtain ⟨g', rfl⟩ : ∃ g', g = g' + 1 := ⟨g - 1, by omega⟩
      cases hn : next l with
      | error e => rw [all_err f h0 hn, all_err g' h0 hn]
      | ok xx =>
        obtain ⟨k, d, s⟩ := xx
        have hs := (next_ok_facts hn).1
        rw [all_ok f h0 hn, all_ok g' h0 hn, ih g' (l.drop s) (by rw [List.length_drop]; omega) (by rw [List.length_drop]; omega)]

/-- How many bytes the first few have. -/
def tot (ds : List (List Nat)) (i : Nat) : Nat := ((ds.take i).map List.length).sum
theorem tot_succ {ds : List (List Nat)} {i : Nat} {d : List Nat} (h : ds[i]? = some d) : tot ds (i + 1) = tot ds i + d.length := by
  have hi := (List.getElem?_eq_some_iff.1 h).1
  have e : ds[i] = d := by rw [List.getElem?_eq_getElem hi] at h; exact Option.some.inj h
  unfold tot
  rw [List.take_succ_eq_append_getElem hi, e, List.map_append, List.sum_append]
  simp
theorem tot_le {ds : List (List Nat)} (h : ∀ d ∈ ds, d.length ≤ 140737488355328) (i : Nat) : tot ds i ≤ i * 140737488355328 := by
  induction i with
  | zero => simp [tot]
  | succ i ih =>
    by_cases hi : i < ds.length
    · rw [tot_succ (List.getElem?_eq_getElem hi)]
      have := h ds[i] (List.getElem_mem hi)
      omega
    · have e : tot ds (i + 1) = tot ds i := by
        unfold tot
        rw [List.take_of_length_le (by omega), List.take_of_length_le (by omega)]
      omega
theorem room_zip : ∀ (ks : List Nat) (ds : List (List Nat)), room (ks.zip ds) ≤ (ds.map List.length).sum + 15 * ds.length
  | [], ds => by simp [room]
  | _ :: _, [] => by simp [room]
  | k :: ks, d :: ds => by
    have := room_zip ks ds
    have e : room ((k :: ks).zip (d :: ds)) = d.length + 15 + room (ks.zip ds) := by simp [room]
    rw [e]
    simp
    omega

set_option maxHeartbeats 1000000 in
theorem run_push_item (w : World) (ty : TypeId) (n₀ : Nat) (ov : Value) (fs : List (Nat × List Nat)) (c : Nat) (sv : Value) (d : List Nat) (hF : Is n₀ w ov fs) (hn₀ : n₀ ≤ w.heap.size) (hlen : fs.length ≤ 1000000)
    (hB : Bs w.heap.size w sv d) (hk : d ≠ [] → ∀ k, sv.ownBlock = some k → k < w.heap.size ∧ ¬ ov.ownBlock = some k) :
    ∃ ov' w', (Builtin.append_ #[39, 39] ty #[ov, .slice (some ⟨w.heap.size, 0, none⟩) 1 1]).run Tryd.prog (w.alloc (.cells #[.int .u8 (c : Int), sv] 32)) = .ok ov' w' ∧ Is n₀ w' ov' (fs ++ [(c, d)]) ∧ Below n₀ w w' := by
  obtain ⟨i0, hi, hz0, hz1, hz2⟩ := info_parts infoItem
  have hb1 := (Below.refl w.heap.size w).alloc (Nat.le_refl _) (.cells #[.int .u8 (c : Int), sv] 32)
  obtain ⟨cs, g2, g4⟩ := hF
  have h2 := ownsRow_below g2 hb1
  have h4 := g4.below hb1
  have hB1 := (hB.below hb1).mono hb1.size
  have hsz := hb1.size
  obtain ⟨ov', w', hrun, hO, hg, hfr⟩ := run_append_own2 (w.alloc (.cells #[.int .u8 (c : Int), sv] 32)) n₀ 39 ty 32 i0 _ 2 32 Tryd.underlying39 hi hz0 hz1 hz2 rfl (by decide) ov fs.length (icells fs cs) h2
    ⟨w.heap.size, 0, none⟩ 1 1 [.int .u8 (c : Int), sv] rfl (by
      intro j u hj
      rw [Addr.add_lit, cells_of_block (heap_alloc_new w _), Nat.zero_add, ← Array.getElem?_toList]
      exact hj) (by
      intro u hu
      simp only [List.mem_cons, List.not_mem_nil, or_false] at hu
      rcases hu with rfl | rfl
      · rfl
      · exact hB.one) (by unfold maxLen; omega) (by omega) (Nat.le_trans hn₀ hsz)
  refine ⟨ov', w', hrun, ⟨cs ++ [sv], ?_, ?_⟩, ?_⟩
  · rw [List.length_append, icells_append (c, d) sv fs cs (by rw [g4.1, List.length_map])]
    exact hO
  · rw [List.map_append]
    refine (h4.grown hg (fun k e => e) hfr).snoc ((hB1.grown2 hg (fun hne k hk' e => (hk hne k hk').2 e)).mono hg.size) ?_
    intro hne k hk'
    obtain ⟨q2, q3⟩ := hk hne k hk'
    refine ⟨Nat.zero_le _, Nat.lt_of_lt_of_le q2 (Nat.le_trans hsz hg.size), fun hor => ?_⟩
    rcases hfr k hor with hx' | hx'
    · exact q3 hx'
    · omega
  · exact (hb1.mono hn₀).trans ((Below.refl n₀ _).grown hg (Nat.le_trans hn₀ hsz) (fun k hk => (World.ownsRow.lt h2 k hk).1))

/-- append of an item, as one step of a region that draws its order. -/
theorem step_push_item {ops : Array Oper} {o : Oper} {a : Act} {w : World} {K : Act → World → Prop} {Q : Exit → Act → World → Prop} {E : Prop}
    (hg : o.guard = none) (s x : Operand) (ho : o.op = .call { callee := .builtin .append, args := #[s, x], argTypes := #[39, 39] })
    (n₀ : Nat) (ov : Value) (fs : List (Nat × List Nat)) (c : Nat) (sv : Value) (d : List Nat) (hF : Is n₀ w ov fs) (hn₀ : n₀ ≤ w.heap.size) (hlen : fs.length ≤ 1000000)
    (hB : Bs w.heap.size w sv d) (hk : d ≠ [] → ∀ k, sv.ownBlock = some k → k < w.heap.size ∧ ¬ ov.ownBlock = some k)
    (hs : a.eval s = ov) (hx : a.eval x = .slice (some ⟨w.heap.size, 0, none⟩) 1 1)
    (hK : ∀ ov' w', Is n₀ w' ov' (fs ++ [(c, d)]) → Below n₀ w w' → K (a.put o.dst ov') w') :
    if Region.wanted o (yielded ops a.tmps) = true then Oper.wp Tryd.prog o a (w.alloc (.cells #[.int .u8 (c : Int), sv] 32)) K Q else E := by
  have hw : Region.wanted o (yielded ops a.tmps) = true := by simp [Region.wanted, hg]
  rw [if_pos hw]
  obtain ⟨v', w', hrun, r1, r2⟩ := run_push_item w o.type n₀ ov fs c sv d hF hn₀ hlen hB hk
  unfold Oper.wp
  simp [execOp, ho, resolve, invoke, builtin, hs, hx, hrun, Result.andThen]
  exact hK v' w' r1 r2

theorem Is.cap {n₀ : Nat} {w : World} {ao : Option Addr} {len cp : Nat} {fs : List (Nat × List Nat)} (h : Is n₀ w (.slice ao len cp) fs) : fs.length ≤ cp ∧ cp ≤ maxLen := by
  obtain ⟨cs, ⟨_, ⟨r1, r2⟩ | ⟨g, c, cur, r1, _, _, r2, r3, _⟩⟩, _⟩ := h
  · cases r1
    rw [r2]
    exact ⟨Nat.le_refl _, Nat.zero_le _⟩
  · cases r1
    exact ⟨r2, r3⟩

set_option maxHeartbeats 2000000 in
theorem back_law (ks : List Nat) (ds : List (List Nat)) (kv dv : Value) (cut : Int) (w : World) (hT : Tab w) (hK : Bs w.heap.size w kv ks) (hD : Dv w dv ds) (hk : ∀ c ∈ ks, c < 256) (hd : ∀ d ∈ ds, ∀ c ∈ d, c < 256) (hdl : ∀ d ∈ ds, d.length ≤ 140737488355328) :
    Calls Tryd.prog 6 #[kv, dv, .int .i64 cut] w fun e w' => e = .returned (.bool true) ∧ Below w.heap.size w w' := by
  have ka : ∀ w', Below w.heap.size w w' → Calls Tryd.prog 9 #[] w' fun e w'' => e = .returned (.bool true) ∧ Below w'.heap.size w' w'' := fun w' hb => awake_of w' (hT.below' hb (Nat.le_refl _))
  obtain ⟨ak, ck, rfl, h2, h3, h4, h5⟩ := id hK
  obtain ⟨ad, cd, rfl, hdd⟩ := id hD
  have hkm : (ks.length : Int) ≤ 9223372036854775807 := by unfold maxLen at h3; omega
  go_enter Tryd.func6, Tryd.ntmps6
  go_wp2
  go_loopg [7, 8] 1000 (fun g s7 s8 wr => ∃ i : Nat, i + g = 1000 ∧ i ≤ ds.length ∧ s8 = .int .i64 (i : Int) ∧ s7 = .int .i64 (tot ds i : Int) ∧ wr = w)
  case atStart => exact ⟨0, by simp, by omega, rfl, rfl, rfl⟩
  case round =>
    obtain ⟨i, hi, hil, rfl, rfl, rfl⟩ := hrel
    have ht := tot_le hdl i
    by_cases hgo : i < ds.length ∧ i < 1000
    · obtain ⟨g1, g2⟩ := hgo
      have g1i : (i : Int) < (ds.length : Int) := by omega
      have g2i : (i : Int) < 1000 := by omega
      have hx : ds[i]? = some ds[i] := List.getElem?_eq_getElem g1
      obtain ⟨bd, od, sv, rfl, c2, hBd⟩ := hdd i ds[i] hx
      have hll := hdl ds[i] (List.getElem_mem g1)
      have E : Hid (tot ds (i + 1) = tot ds i + ds[i].length) := tot_succ hx
      generalize ds[i] = d at *
      obtain ⟨asv, csv, rfl, -⟩ := id hBd
      generalize tot ds i = T at *
      have q1 : IntKind.i64.wrap ((T : Int) + (d.length : Int)) = (T : Int) + (d.length : Int) := IntWalk.i64_in _ (by omega)
      clear hdd h5 hK hD hx hBd ka
      go_wp2
      all_goals go_roundg (gk - 1)
      case measure => omega
      case rel => exact ⟨i + 1, by omega, by omega, by go_num, by rw [E.out]; go_num, rfl⟩
    · generalize hTT : tot ds i = T at *
      by_cases hbig : 5000 < T ∨ 200 < ds.length
      · have ka0 := ka wr (Below.refl _ _)
        by_cases b1 : 5000 < T
        · have b1i : (5000 : Int) < (T : Int) := by omega
          by_cases g1 : i < ds.length
          · have g1i : (i : Int) < (ds.length : Int) := by omega
            have g2i : ¬ (i : Int) < 1000 := by omega
            go_wp2_with fail
            refine ka0.mono ?_
            rintro e w1 ⟨rfl, hb⟩
            go_wp2
            go_ret
            exact ⟨rfl, hb⟩
          · have g1i : ¬ (i : Int) < (ds.length : Int) := by omega
            go_wp2_with fail
            refine ka0.mono ?_
            rintro e w1 ⟨rfl, hb⟩
            go_wp2
            go_ret
            exact ⟨rfl, hb⟩
        · have b1i : ¬ (5000 : Int) < (T : Int) := by omega
          have b2i : (200 : Int) < (ds.length : Int) := by omega
          by_cases g1 : i < ds.length
          · have g1i : (i : Int) < (ds.length : Int) := by omega
            have g2i : ¬ (i : Int) < 1000 := by omega
            go_wp2_with fail
            refine ka0.mono ?_
            rintro e w1 ⟨rfl, hb⟩
            go_wp2
            go_ret
            exact ⟨rfl, hb⟩
          · have g1i : ¬ (i : Int) < (ds.length : Int) := by omega
            go_wp2_with fail
            refine ka0.mono ?_
            rintro e w1 ⟨rfl, hb⟩
            go_wp2
            go_ret
            exact ⟨rfl, hb⟩
      · have b1i : ¬ (5000 : Int) < (T : Int) := by omega
        have b2i : ¬ (200 : Int) < (ds.length : Int) := by omega
        have g1i : ¬ (i : Int) < (ds.length : Int) := by omega
        obtain rfl : i = ds.length := by omega
        have htot : (ds.map List.length).sum ≤ 5000 := by
          have : tot ds ds.length = (ds.map List.length).sum := by unfold tot; rw [List.take_of_length_le (Nat.le_refl _)]
          omega
        have hroom : room (ks.zip ds) ≤ 100000 := by
          have := room_zip ks ds
          omega
        have hd200 : ds.length ≤ 200 := by omega
        clear hTT ht hi hgo hbig
        obtain ⟨w1, hw1⟩ : ∃ x, x = wr := ⟨_, rfl⟩
        subst hw1
        have hzl : (ks.zip ds).length = min ks.length ds.length := List.length_zip
        have body : ∀ j, j < ks.length → j < ds.length → ∃ k d, (ks.zip ds)[j]? = some (k, d) ∧ ks[j]? = some k ∧ ds[j]? = some d ∧ (ks.zip ds).take (j + 1) = (ks.zip ds).take j ++ [(k, d)] := by
          intro j h1 h2
          have hi' : j < (ks.zip ds).length := by omega
          refine ⟨ks[j], ds[j], ?_, List.getElem?_eq_getElem h1, List.getElem?_eq_getElem h2, ?_⟩
          · rw [List.getElem?_eq_getElem hi', List.getElem_zip]
          · rw [List.take_succ_eq_append_getElem hi', List.getElem_zip]
        have hFb : ∀ x ∈ ks.zip ds, ∀ c ∈ x.2, c < 256 := fun x hx => hd x.2 (List.of_mem_zip hx).2
        have hFk : ∀ x ∈ ks.zip ds, x.1 < 256 := fun x hx => hk x.1 (List.of_mem_zip hx).1
        have kj : ∀ w', Below w1.heap.size w1 w' → Calls Tryd.prog 16 #[.slice ak ks.length ck, .slice ad ds.length cd] w' _ := fun w' hb => join_of ks ds _ _ w' (hT.below' hb (Nat.le_refl _)) ((hK.below hb).mono hb.size) (hD.below hb) hk hd hroom (by omega)
        obtain ⟨F, hFF⟩ : ∃ F, F = ks.zip ds := ⟨_, rfl⟩
        rw [← hFF] at body hroom hzl hFb hFk kj
        clear hFF
        have hI0 := Is.none w1
        have hb0 := (Below.refl w1.heap.size w1).alloc (Nat.le_refl _) (.cells #[] 32)
        go_wp2
        go_loopg [9, 10] ds.length (fun g s9 s10 wq => ∃ j : Nat, j + g = ds.length ∧ j ≤ ks.length ∧ s10 = .int .i64 (j : Int) ∧ Is w1.heap.size wq s9 (F.take j) ∧ Below w1.heap.size w1 wq)
        case atStart => exact ⟨0, by simp, by omega, rfl, hI0, hb0⟩
        case round =>
          clear hI0 hb0
          obtain ⟨j, hj, hjk, rfl, hI, hbel⟩ := hrel
          obtain ⟨ai, ci, rfl⟩ := hI.shape
          by_cases hgo : j < ks.length ∧ j < ds.length
          · obtain ⟨g1, g2⟩ := hgo
            have n1 : (j : Int) < (ks.length : Int) := by omega
            have n2 : (j : Int) < (ds.length : Int) := by omega
            obtain ⟨k, d, hF, hk1, hd1, htk⟩ := body j g1 g2
            obtain ⟨bk, ok, rfl, hbk, hck⟩ := h5 (by rintro rfl; simp at hk1)
            have c1 := hck j k hk1
            obtain ⟨bd, od, sv, rfl, c2, hBd⟩ := hdd j d hd1
            have hbd := World.block_lt_of_cell? w1 _ c2
            have c1' := (hbel.cell (p := ⟨bk, ok + j, none⟩) hbk).trans c1
            have c2' := (hbel.cell (p := ⟨bd, od + j, none⟩) hbd).trans c2
            obtain ⟨asv, csv, rfl, -⟩ := id hBd
            have hdr : Below wr.heap.size wr wr.drew := (Below.refl _ _).drew
            have hcs : ∀ w', Below wr.heap.size wr w' → w'.cell? ⟨bk, ok + j, none⟩ = some (.int .u8 (k : Int)) ∧ w'.cell? ⟨bd, od + j, none⟩ = some (.slice asv d.length csv) := fun w' hb => ⟨(hb.cell (p := ⟨bk, ok + j, none⟩) (World.block_lt_of_cell? wr _ c1')).trans c1', (hb.cell (p := ⟨bd, od + j, none⟩) (World.block_lt_of_cell? wr _ c2')).trans c2'⟩
            have hI1 := hI.below hdr
            have hB1 : Bs wr.drew.heap.size wr.drew (.slice asv d.length csv) d := (hBd.below (hbel.trans (hdr.mono hbel.size))).mono hbel.size
            have hsvb : d ≠ [] → ∀ q, (Value.slice asv d.length csv).ownBlock = some q → q < wr.drew.heap.size ∧ ¬ (Value.slice ai (F.take j).length ci).ownBlock = some q := by
              intro hne q hq
              obtain ⟨_, _, e1, _, _, _, e5⟩ := hBd
              cases e1
              obtain ⟨b', off', z1, z2, _⟩ := e5 hne
              subst z1
              cases hq
              refine ⟨Nat.lt_of_lt_of_le z2 hbel.size, fun hor => ?_⟩
              obtain ⟨cs, s1, _⟩ := hI
              have hle : w1.heap.size ≤ b' := (World.ownsRow.lt s1 b' hor).1
              exact absurd z2 (Nat.not_lt.2 hle)
            have hb1 := (Below.refl wr.drew.heap.size wr.drew).alloc (Nat.le_refl _) (.cells #[.int .u8 (k : Int), .slice asv d.length csv] 32)
            have hfl : (F.take j).length ≤ 1000000 := by rw [List.length_take]; omega
            have E : Hid (F.take (j + 1) = F.take j ++ [(k, d)]) := htk
            have hkeep : ∀ w', Below w1.heap.size wr w' → w'.cell? ⟨bk, ok + j, none⟩ = some (.int .u8 (k : Int)) ∧ w'.cell? ⟨bd, od + j, none⟩ = some (.slice asv d.length csv) := fun w' hb => ⟨(hb.cell (p := ⟨bk, ok + j, none⟩) hbk).trans c1', (hb.cell (p := ⟨bd, od + j, none⟩) hbd).trans c2'⟩
            clear hck hdd h5 hK hD body hF hk1 hd1 c1 c2 c1' c2' htk hI
            generalize F.take j = G at *
            go_wp2
            go_region_held3 (fun w' => w'.cell? ⟨bk, ok + j, none⟩ = some (.int .u8 (k : Int)) ∧ w'.cell? ⟨bd, od + j, none⟩ = some (.slice asv d.length csv))
              (first | exact x4 | exact hcs _ hdr | exact hcs _ (hdr.trans hb1) | go_keep)
              ((refine step_push_item (by rfl) _ _ (by rfl) w1.heap.size _ _ k _ d hI1 hbel.size hfl hB1 hsvb (by rfl) (by rfl) ?_; intro ov4 w4 hI4 hb4; have x4 := hkeep w4 ((Below.refl w1.heap.size wr).drew.trans hb4)))
            go_wp2
            go_roundg (gk - 1)
            case measure => omega
            case rel => exact ⟨j + 1, by omega, by omega, by go_num, by rw [E.out]; exact hI4, hbel.trans ((Below.refl w1.heap.size wr).drew.trans hb4)⟩
          · have hjF : F.take j = F := List.take_of_length_le (by omega)
            rw [hjF] at hI ⊢
            have hJr := join_room F hroom
            have hJb : ∀ c ∈ join F, c < 256 := by
              intro c hc
              obtain ⟨x, hx, hc⟩ := List.mem_flatMap.1 hc
              exact frameB_lt (hFk x hx) (hFb x hx) c hc
            have hmx : ∀ x ∈ F, x.2.length ≤ 1048571 := fun x hx => by
              have := room_mem hx
              omega
            have hall : all (join F).length (join F) = (F, (join F).length, 0) := by
              rw [all_fuel _ ((join F).length + F.length) _ (Nat.le_refl _) (by omega)]
              exact all_join F _ (by omega) hmx
            have hcut : ∀ c, c ≤ (join F).length → ∃ j2 m e, all ((join F).take c).length ((join F).take c) = (F.take j2, m, e) ∧ j2 ≤ F.length ∧ m ≤ c ∧ ((e = 0 ∧ m = c) ∨ (e = 12 ∧ m ≠ c)) := fun c hc => by
              obtain ⟨j2, m, e, r1, r2⟩ := all_cut F (((join F).take c).length + F.length) c (by omega) hmx hc
              exact ⟨j2, m, e, by rw [all_fuel _ (((join F).take c).length + F.length) _ (Nat.le_refl _) (by omega)]; exact r1, r2⟩
            have hF1 : F.length ≤ 1000000 := by omega
            have hJl : (join F).length ≤ 100000 := by omega
            have hcutH : Hid (∀ c, c ≤ (join F).length → ∃ j2 m e, all ((join F).take c).length ((join F).take c) = (F.take j2, m, e) ∧ j2 ≤ F.length ∧ m ≤ c ∧ ((e = 0 ∧ m = c) ∨ (e = 12 ∧ m ≠ c))) := hcut
            have hallH : Hid (all (join F).length (join F) = (F, (join F).length, 0)) := hall
            clear hcut hall hJr hmx hroom
            generalize join F = L at *
            have hor : ¬ ((j : Int) < (ks.length : Int) ∧ (j : Int) < (ds.length : Int)) := by omega
            clear hdd h5 hK hD body hjF hzl
            by_cases n0 : j < ks.length
            · have n1 : (j : Int) < (ks.length : Int) := by omega
              have n2 : ¬ (j : Int) < (ds.length : Int) := by omega
              clear hgo
              go_wp2_with fail
              refine (kj wr hbel).mono ?_
              rintro e w4 ⟨jv, rfl, hO4, hb4⟩
              have hbw4 := hbel.trans (hb4.mono hbel.size)
              have hI4 := hI.below hb4
              have hB4 := hO4.bs
              obtain ⟨aj, cj, rfl⟩ := hO4.shape
              have k5 := all_of _ L _ w4 (hT.below' hbw4 (Nat.le_refl _)) hB4 hJb (Nat.le_refl _) (by omega)
              rw [hallH.out] at k5
              clear hI hO4 kj
              go_wp2_with fail
              refine k5.mono ?_
              rintro e w5 ⟨kv5, dv5, rfl, hF5, hb5⟩
              have hbw5 := hbw4.trans (hb5.mono hbw4.size)
              have hI5 := hI4.below hb5
              have hB5 := hB4.below hb5
              have hK5 : Bs w5.heap.size w5 kv5 (F.map Prod.fst) := by
                obtain ⟨cs, h1, _⟩ := hF5
                exact h1.bs
              have ks5 := same_of w5.heap.size F kv5 dv5 _ w5 hK5 hF5.dv hI5.iv hFb (by omega)
              obtain ⟨⟨ak5, ck5, rfl⟩, ad5, cd5, rfl⟩ := hF5.shapes
              clear k5 hK5 hF5 hI4 hB4
              go_wp2_with fail
              refine ks5.mono ?_
              rintro e w6 ⟨rfl, hb6⟩
              have hbw6 := hbw5.trans (hb6.mono hbw5.size)
              have hI6 := hI5.below hb6
              have hB6 := hB5.below (hb6.mono hb5.size)
              have hw46 : w4.heap.size ≤ w6.heap.size := Nat.le_trans hb5.size hb6.size
              clear ks5 hI5 hB5
              by_cases hc : cut < 0 ∨ (L.length : Int) < cut
              · have ka6 := ka w6 hbw6
                by_cases hc0 : cut < 0
                · go_wp2_with fail
                  refine ka6.mono ?_
                  rintro e w7 ⟨rfl, hb7⟩
                  go_wp2
                  go_ret
                  exact ⟨rfl, hbw6.trans (hb7.mono hbw6.size)⟩
                · have hc1 : (L.length : Int) < cut := by omega
                  go_wp2_with fail
                  refine ka6.mono ?_
                  rintro e w7 ⟨rfl, hb7⟩
                  go_wp2
                  go_ret
                  exact ⟨rfl, hbw6.trans (hb7.mono hbw6.size)⟩
              · have hc0 : ¬ cut < 0 := by omega
                have hc1 : ¬ (L.length : Int) < cut := by omega
                clear hc
                obtain ⟨c, rfl⟩ : ∃ c : Nat, cut = (c : Int) := ⟨cut.toNat, by omega⟩
                have hcl : c ≤ L.length := by omega
                obtain ⟨j2, m, e2, hal, hj2, hmc, hem⟩ := hcutH.out c hcl
                have hcap6 : L.length ≤ cj ∧ cj ≤ maxLen := by
                  obtain ⟨_, _, z1, z2, z3, _⟩ := id hB6
                  cases z1
                  exact ⟨z2, z3⟩
                have o1 : (c : Int) ≤ (cj : Int) := by omega
                have o2 : (cj : Int) ≤ 9223372036854775807 := by unfold maxLen at hcap6; omega
                have o3 : c ≤ cj := by omega
                have hicap := hI6.cap
                have hBc := Bs.took hB6 hcl
                have k7 := all_of _ (L.take c) _ w6 (hT.below' hbw6 (Nat.le_refl _)) hBc (fun x hx => hJb x (List.mem_of_mem_take hx)) hw46 (by rw [List.length_take]; omega)
                rw [hal] at k7
                simp only at k7
                obtain ⟨G, hG⟩ : ∃ G, G = F.take j2 := ⟨_, rfl⟩
                have hGF : F.take G.length = G := by
                  rw [hG, List.length_take, Nat.min_eq_left hj2]
                have hGl : G.length ≤ F.length := by rw [hG, List.length_take]; omega
                have hGb : ∀ x ∈ G, ∀ c ∈ x.2, c < 256 := fun x hx => hFb x (List.mem_of_mem_take (by rw [hG] at hx; exact hx))
                rw [← hG] at k7
                clear hG hal hj2 hcutH hallH hB6 hBc
                go_wp2_with fail
                refine k7.mono ?_
                rintro e w8 ⟨kv8, dv8, rfl, hF8, hb8⟩
                have hbw8 := hbw6.trans (hb8.mono hbw6.size)
                have hI8 := (hI6.below hb8).iv.took G.length hGl
                rw [hGF] at hI8
                have hK8 : Bs w8.heap.size w8 kv8 (G.map Prod.fst) := by
                  obtain ⟨cs, h1, _⟩ := hF8
                  exact h1.bs
                have ks8 := same_of w8.heap.size G kv8 dv8 _ w8 hK8 hF8.dv hI8 hGb (by omega)
                obtain ⟨⟨ak8, ck8, rfl⟩, ad8, cd8, rfl⟩ := hF8.shapes
                have p1 : ¬ (c : Int) < (m : Int) := by omega
                have p2 : ¬ (F.length : Int) < (G.length : Int) := by omega
                have p3 : (G.length : Int) ≤ (ci : Int) := by omega
                have p4 : (ci : Int) ≤ 9223372036854775807 := by unfold maxLen at hicap; omega
                have p5 : G.length ≤ ci := by omega
                clear k7 hK8 hF8 hI8 hI6 hGF
                go_wp2_with fail
                refine ks8.mono ?_
                rintro e w9 ⟨rfl, hb9⟩
                have hbw9 := hbw8.trans (hb9.mono hbw8.size)
                have ka9 := ka w9 hbw9
                rcases hem with ⟨rfl, rfl⟩ | ⟨rfl, hmne⟩
                · go_wp2_with fail
                  refine ka9.mono ?_
                  rintro e w10 ⟨rfl, hb10⟩
                  go_wp2
                  go_ret
                  exact ⟨rfl, hbw9.trans (hb10.mono hbw9.size)⟩
                · have hmi : ¬ (m : Int) = (c : Int) := by omega
                  have hmj : ((m : Int) == (c : Int)) = false := by simp; omega
                  go_wp2_with fail
                  refine ka9.mono ?_
                  rintro e w10 ⟨rfl, hb10⟩
                  go_wp2
                  go_ret
                  exact ⟨rfl, hbw9.trans (hb10.mono hbw9.size)⟩
            · have n1 : ¬ (j : Int) < (ks.length : Int) := by omega
              clear hgo
              go_wp2_with fail
              refine (kj wr hbel).mono ?_
              rintro e w4 ⟨jv, rfl, hO4, hb4⟩
              have hbw4 := hbel.trans (hb4.mono hbel.size)
              have hI4 := hI.below hb4
              have hB4 := hO4.bs
              obtain ⟨aj, cj, rfl⟩ := hO4.shape
              have k5 := all_of _ L _ w4 (hT.below' hbw4 (Nat.le_refl _)) hB4 hJb (Nat.le_refl _) (by omega)
              rw [hallH.out] at k5
              clear hI hO4 kj
              go_wp2_with fail
              refine k5.mono ?_
              rintro e w5 ⟨kv5, dv5, rfl, hF5, hb5⟩
              have hbw5 := hbw4.trans (hb5.mono hbw4.size)
              have hI5 := hI4.below hb5
              have hB5 := hB4.below hb5
              have hK5 : Bs w5.heap.size w5 kv5 (F.map Prod.fst) := by
                obtain ⟨cs, h1, _⟩ := hF5
                exact h1.bs
              have ks5 := same_of w5.heap.size F kv5 dv5 _ w5 hK5 hF5.dv hI5.iv hFb (by omega)
              obtain ⟨⟨ak5, ck5, rfl⟩, ad5, cd5, rfl⟩ := hF5.shapes
              clear k5 hK5 hF5 hI4 hB4
              go_wp2_with fail
              refine ks5.mono ?_
              rintro e w6 ⟨rfl, hb6⟩
              have hbw6 := hbw5.trans (hb6.mono hbw5.size)
              have hI6 := hI5.below hb6
              have hB6 := hB5.below (hb6.mono hb5.size)
              have hw46 : w4.heap.size ≤ w6.heap.size := Nat.le_trans hb5.size hb6.size
              clear ks5 hI5 hB5
              by_cases hc : cut < 0 ∨ (L.length : Int) < cut
              · have ka6 := ka w6 hbw6
                by_cases hc0 : cut < 0
                · go_wp2_with fail
                  refine ka6.mono ?_
                  rintro e w7 ⟨rfl, hb7⟩
                  go_wp2
                  go_ret
                  exact ⟨rfl, hbw6.trans (hb7.mono hbw6.size)⟩
                · have hc1 : (L.length : Int) < cut := by omega
                  go_wp2_with fail
                  refine ka6.mono ?_
                  rintro e w7 ⟨rfl, hb7⟩
                  go_wp2
                  go_ret
                  exact ⟨rfl, hbw6.trans (hb7.mono hbw6.size)⟩
              · have hc0 : ¬ cut < 0 := by omega
                have hc1 : ¬ (L.length : Int) < cut := by omega
                clear hc
                obtain ⟨c, rfl⟩ : ∃ c : Nat, cut = (c : Int) := ⟨cut.toNat, by omega⟩
                have hcl : c ≤ L.length := by omega
                obtain ⟨j2, m, e2, hal, hj2, hmc, hem⟩ := hcutH.out c hcl
                have hcap6 : L.length ≤ cj ∧ cj ≤ maxLen := by
                  obtain ⟨_, _, z1, z2, z3, _⟩ := id hB6
                  cases z1
                  exact ⟨z2, z3⟩
                have o1 : (c : Int) ≤ (cj : Int) := by omega
                have o2 : (cj : Int) ≤ 9223372036854775807 := by unfold maxLen at hcap6; omega
                have o3 : c ≤ cj := by omega
                have hicap := hI6.cap
                have hBc := Bs.took hB6 hcl
                have k7 := all_of _ (L.take c) _ w6 (hT.below' hbw6 (Nat.le_refl _)) hBc (fun x hx => hJb x (List.mem_of_mem_take hx)) hw46 (by rw [List.length_take]; omega)
                rw [hal] at k7
                simp only at k7
                obtain ⟨G, hG⟩ : ∃ G, G = F.take j2 := ⟨_, rfl⟩
                have hGF : F.take G.length = G := by
                  rw [hG, List.length_take, Nat.min_eq_left hj2]
                have hGl : G.length ≤ F.length := by rw [hG, List.length_take]; omega
                have hGb : ∀ x ∈ G, ∀ c ∈ x.2, c < 256 := fun x hx => hFb x (List.mem_of_mem_take (by rw [hG] at hx; exact hx))
                rw [← hG] at k7
                clear hG hal hj2 hcutH hallH hB6 hBc
                go_wp2_with fail
                refine k7.mono ?_
                rintro e w8 ⟨kv8, dv8, rfl, hF8, hb8⟩
                have hbw8 := hbw6.trans (hb8.mono hbw6.size)
                have hI8 := (hI6.below hb8).iv.took G.length hGl
                rw [hGF] at hI8
                have hK8 : Bs w8.heap.size w8 kv8 (G.map Prod.fst) := by
                  obtain ⟨cs, h1, _⟩ := hF8
                  exact h1.bs
                have ks8 := same_of w8.heap.size G kv8 dv8 _ w8 hK8 hF8.dv hI8 hGb (by omega)
                obtain ⟨⟨ak8, ck8, rfl⟩, ad8, cd8, rfl⟩ := hF8.shapes
                have p1 : ¬ (c : Int) < (m : Int) := by omega
                have p2 : ¬ (F.length : Int) < (G.length : Int) := by omega
                have p3 : (G.length : Int) ≤ (ci : Int) := by omega
                have p4 : (ci : Int) ≤ 9223372036854775807 := by unfold maxLen at hicap; omega
                have p5 : G.length ≤ ci := by omega
                clear k7 hK8 hF8 hI8 hI6 hGF
                go_wp2_with fail
                refine ks8.mono ?_
                rintro e w9 ⟨rfl, hb9⟩
                have hbw9 := hbw8.trans (hb9.mono hbw8.size)
                have ka9 := ka w9 hbw9
                rcases hem with ⟨rfl, rfl⟩ | ⟨rfl, hmne⟩
                · go_wp2_with fail
                  refine ka9.mono ?_
                  rintro e w10 ⟨rfl, hb10⟩
                  go_wp2
                  go_ret
                  exact ⟨rfl, hbw9.trans (hb10.mono hbw9.size)⟩
                · have hmi : ¬ (m : Int) = (c : Int) := by omega
                  have hmj : ((m : Int) == (c : Int)) = false := by simp; omega
                  go_wp2_with fail
                  refine ka9.mono ?_
                  rintro e w10 ⟨rfl, hb10⟩
                  go_wp2
                  go_ret
                  exact ⟨rfl, hbw9.trans (hb10.mono hbw9.size)⟩
end Go.Proofs.YtlminobaohkalaaDoor
