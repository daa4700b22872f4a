/- The law FaultAround answers true at every cause, slice of causes and code whose bulk is together at most 1048576 and leaves its arguments and all memory as they were: the second form's row and its tied card; the variable errors.errorType starts as the program's text lays it. -/
import Derived.Test.YtgffbicdfclcmaaDoorLift
import Derived.Test.YtgffbicdfclcmaaDoorAround
import Derived.Test.YtgffbicdfclcmaaDoorBulk
import Derived.Test.YtgffbicdfclcmaaDoorOpens
import Derived.Test.YtgffbicdfclcmaaDoorCards
import Derived.Test.YtgffbicdfclcmaaDoorTie
import Derived.Lib.SmallJoins
import Derived.Deep.DeepHandedRow
import Derived.SevenTiedAt
namespace Go.Proofs.YtgffbicdfclcmaaDoor
open Go.ChangeShapes Go.WideShapes Go.RowKit
set_option maxRecDepth 100000

theorem around_law (op : ByteArray) (co : Int) (zs : List (ByteArray × Int)) (a : Option Addr) (len cap : Nat) (pl : Int) (w : World) (hg : Door w) (hC : Causes w.heap.size w (.slice a len cap) zs) (hcap : len ≤ cap) (hm : len ≤ 9223372036854775807)
    (hcs : ∀ c ∈ zs, c.2 ≤ 9223372036854775807) (hco : co ≤ 9223372036854775807) (hpl : pl ≤ 9223372036854775807) (hsum : op.size + opsSum zs ≤ 1048576) :
    Calls Tryd.prog 5 #[.agg #[.string op, .int .i64 co], .slice a len cap, .int .i64 pl] w fun e w' => e = .returned (.bool true) ∧ Below w.heap.size w w' := by
  have hlen : (restB true ((op, co) :: zs.take 200) none).length ≤ 2000000 := by
    have h1 := restB_le ((op, co) :: zs.take 200) (by intro c h; rcases List.mem_cons.1 h with rfl | h; exact hco; exact hcs c (List.mem_of_mem_take h)) true
    have h2 := opsSum_take zs 200
    have h3 : (zs.take 200).length ≤ 200 := by rw [List.length_take]; omega
    have h4 : opsSum ((op, co) :: zs.take 200) = op.size + opsSum (zs.take 200) := by simp [opsSum]
    simp only [List.length_cons] at h1
    omega
  by_cases hne : zs.take 200 = []
  · by_cases hp : pl = 0
    · subst hp
      exact around_C op co zs a len cap w hg hC hcap hm hcs hco (by omega) hne
    · refine around_B op co zs a len cap pl w hg hC hcap hm hcs hco ?_ hne hp hpl
      have h1 := len_around (ys := []) (t := some pl) (op, co) (.inr (by simp))
      have h2 := codeText_length pl hpl
      have h3 : (restB true ([] : List (ByteArray × Int)) (some pl)).length = (codeText pl).length := by simp [restB]
      rw [hne] at hlen ⊢
      omega
  · exact around_A op co zs a len cap pl w hg hC hcap hm hcs hco (by omega) hne

theorem around_reads (os : Os) {H : Type} (enc : TypeId × Value → H) : ∃ places, DataW.whole enc Tryd.prog (World.forCall { World.holding Tryd.prog os ⟨#[], #[], []⟩ with heap := (World.holding Tryd.prog os ⟨#[], #[], []⟩).heap.modify 0 fun
        | .cells _ t frozen => .cells #[.iface 82 (.agg #[.pointer (some ⟨1, 25, none⟩)])] t frozen
        | o => o } (fun _ _ => 0) ⟨#[], #[.agg #[.string ⟨#[]⟩, .int .i64 0], .slice none 0 0, .int .i64 0], []⟩).memory Tryd.f5.params.toList Rows.faultAroundSpec.vars false #[Value.agg #[.string ⟨#[]⟩, .int .i64 0], Value.slice none 0 0, Value.int .i64 0].toList 8 = some ([.agg [.lit (.string []), .lit (.int .i64 0)], .nil, .lit (.int .i64 0)], [], places) :=
  ⟨[], by kernel_rfl⟩

theorem around_lifted (os : Os) (started : os.Started) (H : Type) (enc : TypeId × Value → H) (F : Stop.Interp) :
    ReturnsInHanded {} Tryd.checked os 5 .any ((Rows.OpenSpec.upto Rows.faultAroundSpec).preRow enc Tryd.prog Tryd.f5 Rows.faultAroundUptoRow.domain false Rows.faultAroundUptoRow.laid) (((Rows.OpenSpec.upto Rows.faultAroundSpec).at F).post enc Tryd.prog Tryd.f5 false true false false) := by
  obtain ⟨places, hx⟩ := around_reads os enc
  refine returnsInHanded_of_row (C := Tryd.checked) (s := Rows.OpenSpec.upto Rows.faultAroundSpec) own started (by kernel_rfl) Tryd.func5
    (witness_row_at (enc := enc) (C := Tryd.checked) false _ #[.agg #[.string ⟨#[]⟩, .int .i64 0], .slice none 0 0, .int .i64 0] rfl (by kernel_rfl) (by kernel_rfl) (by kernel_rfl)
      (OpenSpec.preRow_of_cond 8 hx (by kernel_rfl) (fun k hk => by cases hk; kernel_rfl) (by kernel_rfl) (laidMetH_of_parts (laidMet_nil _ _) (by kernel_rfl)))) ?_
  intro W base args ds gs before hval0 hW _ hcond _ hL _ _
  have hval : ∀ (j : Nat) t v, Tryd.f5.params[j]? = some t → args[j]? = some v → Value.okWide Tryd.prog W .any base t v := hval0
  have hW' := hW
  obtain ⟨p, q, hA0, hV0, rfl, hfz, hnd⟩ := hW
  have hA : DataW.TrodAll enc Tryd.prog W 0 (fun _ => true) true Tryd.f5.params.toList args.toList ds p := hA0
  have hV : DataW.TrodVars enc Tryd.prog W (fun _ => true) [] gs q := hV0
  rw [Tryd.params5] at hA hval
  obtain ⟨v0, v1, v2, d0, d1, d2, p0, p1, p2, rfl, rfl, rfl, h0, h1, h2⟩ := trodAll_three hA
  obtain ⟨rfl, rfl⟩ : gs = [] ∧ q = [] := by
    cases gs with
    | nil => exact ⟨rfl, hV⟩
    | cons g r => exact absurd hV (by intro h; cases h)
  obtain ⟨pl, rfl, rfl, rfl, hwp⟩ := open_int Tryd.underlying30 (hval 2 30 v2 rfl rfl) h2
  obtain ⟨a, len, cap, zs, rfl, hC, hcap, hm, hzs, hd⟩ := causes_of (hval 1 22 v1 rfl rfl) h1
  have h0k := h0
  obtain ⟨c0, c1, y0, y1, m, hv0, hd0, hp0, hy0, hy1⟩ := Joins.open_agg2 Tryd.underlying32 (by kernel_rfl) cells32 (hval 0 32 v0 rfl rfl) h0
  obtain ⟨op, ec0, ey0, _⟩ := DataW.trod_string Tryd.underlying9 hy0
  obtain ⟨co, ec1, ey1, hwc⟩ := DataW.trod_int Tryd.underlying30 hy1
  simp only [List.cons.injEq, and_true] at ec0 ec1
  subst ec0 ec1 ey0 ey1
  subst hv0
  have hlt : ∀ x ∈ p0 ++ (p1 ++ []), x.block < W.heap.size := fun x hx => by simpa using hW'.lt x (by simpa using hx)
  have hcs : ∀ c ∈ zs, c.2 ≤ 9223372036854775807 := fun c hc => by have := (hzs c hc).1; simp [Lit.wf] at this; omega
  have hco : co ≤ 9223372036854775807 := by have := hwc; simp [Lit.wf] at this; omega
  have hpl : pl ≤ 9223372036854775807 := by have := hwp; simp [Lit.wf] at this; omega
  have hk : Rows.uptoBulkAll ([d0, d1, .lit (.int .i64 pl)] ++ []) ≤ 1048576 := of_decide_eq_true (hcond _ rfl)
  have hsum : op.size + opsSum zs ≤ 1048576 := by
    rw [hd0] at hk
    obtain ⟨rfl, rfl⟩ | ⟨sp, rfl⟩ := hd
    · simp only [Rows.uptoBulkAll, List.append_nil, Rows.uptoBulk, bytes_len] at hk
      simp [opsSum]
      omega
    · have h1 := bulk_causes (H := H) zs
      simp only [Rows.uptoBulkAll, List.append_nil, Rows.uptoBulk, bytes_len] at hk
      have h2 : Rows.uptoBulkAll (zs.map fun c => DataW.agg (H := H) [.lit (.string c.1.data.toList), .lit (.int .i64 c.2)]) = Rows.uptoBulkAll (zs.map (causeD (H := H))) := rfl
      omega
  have e1 : Rows.faultAroundSpec.fn H ([d0, d1, .lit (.int .i64 pl)] ++ []) = { results := [.lit (.bool true)], args := [d0, d1, .lit (.int .i64 pl)] } := by simp [Rows.faultAroundSpec]
  refine (around_law op co zs a len cap pl W (door_of_laid hL) hC hcap (by unfold maxLen at hm; omega) hcs hco hpl hsum).mono fun e W' ⟨he, hb⟩ => ?_
  subst he
  refine ⟨_, rfl, _, _, _, [], p0 ++ (p1 ++ []), [], hW', ?_, ?_, ?_, hb.frame _, fun h => by cases h⟩
  · show DataW.TrodAll _ _ _ _ _ _ _ _ (Rows.faultAroundSpec.fn H ([d0, d1, .lit (.int .i64 pl)] ++ [])).results _
    rw [e1]; exact trodAll_mk1 (shut_bool Tryd.underlying4 true)
  · show DataW.TrodAll _ _ _ _ _ _ _ _ (Rows.faultAroundSpec.fn H ([d0, d1, .lit (.int .i64 pl)] ++ [])).args _
    rw [e1]
    exact trodAll_mk3 (Below.trod laidOut (by kernel_rfl) (of_decide_eq_true (by kernel_rfl)) h0k hb (fun x hx => hlt x (by simp [hx])))
      (Below.trod laidOut (by kernel_rfl) (of_decide_eq_true (by kernel_rfl)) h1 hb (fun x hx => hlt x (by simp [hx]))) (shut_int Tryd.underlying30 hwp)
  · rfl

theorem around_row : Rows.FaultAroundUptoSaid :=
  OpenClaim.holds_of_cond 5 Tryd.f5 rfl rfl rfl rfl rfl rfl rfl ⟨rfl, rfl, rfl, rfl, rfl⟩ rfl rfl rfl rfl rfl (by kernel_rfl) Tryd.func5 (by kernel_rfl)
    (of_decide_eq_true (by kernel_rfl)) (by unfold Func.isWrapper; rw [if_neg (of_decide_eq_false (by kernel_rfl))]; exact ⟨rfl, rfl⟩)
    (fun os started H enc _ F => by rw [OpenClaim.pre_eq_preRow]; exact around_lifted os started H enc F)

theorem around_card : Rows.FaultAroundUptoCardSaid :=
  Claim7.holds_tied_plain_at .later [] [.handle] true (true, "43264fe8e3963a993f3a8bf897393f11ae79298c27f95928f77a7ad8b5a23117") true
    around_row (fun _ h => by cases h) (by kernel_rfl) (fun _ h => by cases h) faultAroundUpto_row_tie rfl ⟨rfl, rfl⟩ (by kernel_rfl) rfl
    (fun f fn hf hfn => by
      obtain rfl : f = 5 := Option.some.inj ((show Tryd.prog.funcNamed "gudgeon/gudgeonlaw01.FaultAround" = some 5 by kernel_rfl).symm.trans hf) |>.symm
      obtain rfl : fn = Tryd.f5 := (Option.some.inj (Tryd.func5.symm.trans hfn)).symm
      exact ⟨by kernel_rfl, fun j t ht => by
        rw [Tryd.params5] at ht
        have h3 : t = 32 ∨ t = 22 ∨ t = 30 := by simpa using Array.mem_of_getElem? ht
        obtain rfl | rfl | rfl := h3
        · exact (show Tryd.prog.wantsStandIn 32 = false by kernel_rfl)
        · exact (show Tryd.prog.wantsStandIn 22 = false by kernel_rfl)
        · exact (show Tryd.prog.wantsStandIn 30 = false by kernel_rfl)⟩)
    (by kernel_rfl)
#print axioms around_card
end Go.Proofs.YtgffbicdfclcmaaDoor
