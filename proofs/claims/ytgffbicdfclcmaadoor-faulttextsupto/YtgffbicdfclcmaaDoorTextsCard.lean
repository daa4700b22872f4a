/- The law FaultTexts answers true at every slice of causes whose bulk is at most 1048576 and leaves its argument and all memory as they were: the second form's row and its tied card; the variable errors.errorType starts as the program's text lays it. -/
import Derived.Test.YtgffbicdfclcmaaDoorLift
import Derived.Test.YtgffbicdfclcmaaDoorTexts
import Derived.Test.YtgffbicdfclcmaaDoorBulk
import Derived.Test.YtgffbicdfclcmaaDoorOpens
import Derived.Test.YtgffbicdfclcmaaDoorCards
import Derived.Test.YtgffbicdfclcmaaDoorTie
import Derived.Deep.DeepHandedRow
import Derived.SevenTiedAt
namespace Go.Proofs.YtgffbicdfclcmaaDoor
open Go.ChangeShapes Go.WideShapes Go.RowKit
set_option maxRecDepth 100000

theorem texts_reads (os : Os) {H : Type} (enc : TypeId × Value → H) : ∃ places, DataW.whole enc Tryd.prog (World.forCall { World.holding Tryd.prog os ⟨#[], #[], []⟩ with heap := (World.holding Tryd.prog os ⟨#[], #[], []⟩).heap.modify 0 fun
        | .cells _ t frozen => .cells #[.iface 82 (.agg #[.pointer (some ⟨1, 25, none⟩)])] t frozen
        | o => o } (fun _ _ => 0) ⟨#[], #[.slice none 0 0], []⟩).memory Tryd.f3.params.toList Rows.faultTextsSpec.vars false #[Value.slice none 0 0].toList 8 = some ([.nil], [], places) :=
  ⟨[], by kernel_rfl⟩

theorem texts_lifted (os : Os) (started : os.Started) (H : Type) (enc : TypeId × Value → H) (F : Stop.Interp) :
    ReturnsInHanded {} Tryd.checked os 3 .any ((Rows.OpenSpec.upto Rows.faultTextsSpec).preRow enc Tryd.prog Tryd.f3 Rows.faultTextsUptoRow.domain false Rows.faultTextsUptoRow.laid) (((Rows.OpenSpec.upto Rows.faultTextsSpec).at F).post enc Tryd.prog Tryd.f3 false true false false) := by
  obtain ⟨places, hx⟩ := texts_reads os enc
  refine returnsInHanded_of_row (C := Tryd.checked) (s := Rows.OpenSpec.upto Rows.faultTextsSpec) own started (by kernel_rfl) Tryd.func3
    (witness_row_at (enc := enc) (C := Tryd.checked) false _ #[.slice none 0 0] rfl (by kernel_rfl) (by kernel_rfl) (by kernel_rfl)
      (OpenSpec.preRow_of_cond 8 hx (by kernel_rfl) (fun k hk => by cases hk; kernel_rfl) (by kernel_rfl) (laidMetH_of_parts (laidMet_nil _ _) (by kernel_rfl)))) ?_
  intro W base args ds gs before hval0 hW _ hcond _ hL _ _
  have hval : ∀ (j : Nat) t v, Tryd.f3.params[j]? = some t → args[j]? = some v → Value.okWide Tryd.prog W .any base t v := hval0
  have hW' := hW
  obtain ⟨p, q, hA0, hV0, rfl, hfz, hnd⟩ := hW
  have hA : DataW.TrodAll enc Tryd.prog W 0 (fun _ => true) true Tryd.f3.params.toList args.toList ds p := hA0
  have hV : DataW.TrodVars enc Tryd.prog W (fun _ => true) [] gs q := hV0
  rw [Tryd.params3] at hA hval
  obtain ⟨v0, d0, rfl, rfl, h0⟩ := trodAll_one hA
  obtain ⟨rfl, rfl⟩ : gs = [] ∧ q = [] := by
    cases gs with
    | nil => exact ⟨rfl, hV⟩
    | cons g r => exact absurd hV (by intro h; cases h)
  obtain ⟨a, len, cap, zs, rfl, hC, hcap, hm, hzs, hd⟩ := causes_of (hval 0 22 v0 rfl rfl) h0
  have hlt : ∀ x ∈ p, x.block < W.heap.size := fun x hx => by simpa using hW'.lt x (by simp [hx])
  have hcs : ∀ c ∈ zs, c.2 ≤ 9223372036854775807 := fun c hc => by have := (hzs c hc).1; simp [Lit.wf] at this; omega
  have hk : Rows.uptoBulkAll ([d0] ++ []) ≤ 1048576 := of_decide_eq_true (hcond _ rfl)
  have hsum : opsSum zs ≤ 1048576 := by
    obtain ⟨_, rfl⟩ | ⟨sp, rfl⟩ := hd
    · simp [opsSum]
    · have h1 := bulk_causes (H := H) zs
      simp only [Rows.uptoBulkAll, List.append_nil, Rows.uptoBulk] at hk
      have h2 : Rows.uptoBulkAll (zs.map fun c => DataW.agg (H := H) [.lit (.string c.1.data.toList), .lit (.int .i64 c.2)]) = Rows.uptoBulkAll (zs.map (causeD (H := H))) := rfl
      omega
  have hlen : (restB true (zs.take 200) none).length ≤ 140737488355328 := by
    have h1 := restB_le (zs.take 200) (fun c h => hcs c (List.mem_of_mem_take h)) true
    have h2 := opsSum_take zs 200
    have h3 : (zs.take 200).length ≤ 200 := by rw [List.length_take]; omega
    omega
  have e1 : Rows.faultTextsSpec.fn H ([d0] ++ []) = { results := [.lit (.bool true)], args := [d0] } := by simp [Rows.faultTextsSpec]
  refine (texts_law zs a len cap W (door_of_laid hL) hC hcap (by unfold maxLen at hm; omega) hcs hlen).mono fun e W' ⟨he, hb⟩ => ?_
  subst he
  refine ⟨_, rfl, _, _, _, [], p, [], hW', ?_, ?_, ?_, hb.frame _, fun h => by cases h⟩
  · show DataW.TrodAll _ _ _ _ _ _ _ _ (Rows.faultTextsSpec.fn H ([d0] ++ [])).results _
    rw [e1]; exact trodAll_mk1 (shut_bool Tryd.underlying4 true)
  · show DataW.TrodAll _ _ _ _ _ _ _ _ (Rows.faultTextsSpec.fn H ([d0] ++ [])).args _
    rw [e1]; exact trodAll_mk1 (Below.trod laidOut (by kernel_rfl) (of_decide_eq_true (by kernel_rfl)) h0 hb hlt)
  · rfl

theorem texts_row : Rows.FaultTextsUptoSaid :=
  OpenClaim.holds_of_cond 3 Tryd.f3 rfl rfl rfl rfl rfl rfl rfl ⟨rfl, rfl, rfl, rfl, rfl⟩ rfl rfl rfl rfl rfl (by kernel_rfl) Tryd.func3 (by kernel_rfl)
    (of_decide_eq_true (by kernel_rfl)) (by unfold Func.isWrapper; rw [if_neg (of_decide_eq_false (by kernel_rfl))]; exact ⟨rfl, rfl⟩)
    (fun os started H enc _ F => by rw [OpenClaim.pre_eq_preRow]; exact texts_lifted os started H enc F)

theorem texts_card : Rows.FaultTextsUptoCardSaid :=
  Claim7.holds_tied_plain_at .later [] [.handle] true (true, "43264fe8e3963a993f3a8bf897393f11ae79298c27f95928f77a7ad8b5a23117") true
    texts_row (fun _ h => by cases h) (by kernel_rfl) (fun _ h => by cases h) faultTextsUpto_row_tie rfl ⟨rfl, rfl⟩ (by kernel_rfl) rfl
    (fun f fn hf hfn => by
      obtain rfl : f = 3 := Option.some.inj ((show Tryd.prog.funcNamed "gudgeon/gudgeonlaw01.FaultTexts" = some 3 by kernel_rfl).symm.trans hf) |>.symm
      obtain rfl : fn = Tryd.f3 := (Option.some.inj (Tryd.func3.symm.trans hfn)).symm
      exact ⟨by kernel_rfl, fun j t ht => by
        rw [Tryd.params3] at ht
        obtain rfl : t = 22 := by simpa using Array.mem_of_getElem? ht
        exact (show Tryd.prog.wantsStandIn 22 = false by kernel_rfl)⟩)
    (by kernel_rfl)
#print axioms texts_card
end Go.Proofs.YtgffbicdfclcmaaDoor
