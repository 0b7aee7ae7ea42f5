/- The places of events of some kinds, of a run, a key, a client, of some ticks, and all runs and keys, are told: the law TraceFinds returns true at every input, and each argument reads as it did; the listed tables are as the program's text lays them. -/
import Derived.Test.YtcdikdiopklcgaaGreatDoorEvo
import Derived.Test.YtcdikdiopklcgaaGreatDoorEwl
import Derived.Test.YtcdikdiopklcgaaGreatDoorEvq
namespace Go.Proofs.YtcdikdiopklcgaaGreatDoor.Tr
open Go.RowKit Go.Maps Go.ChangeMaps
set_option linter.unusedVariables false
theorem sl_rows {w : World} {v : Value} {xs : List EvA} (h : SlEvA w v xs) : ∃ a m, v = .slice a (xs.map EvA.z).length m ∧ ∀ i e, (xs.map EvA.z)[i]? = some e → ∃ g off, a = some ⟨g, off, none⟩ ∧ Rc w g (off + i * 13) e := by
  rcases h with ⟨rfl, a, c, rfl⟩ | ⟨b, off, cap, rfl, hr⟩
  · exact ⟨a, c, rfl, fun i e he => by simp at he⟩
  · refine ⟨_, cap, by rw [List.length_map], fun i e he => ⟨b, off, rfl, ?_⟩⟩
    rw [List.getElem?_map] at he
    obtain ⟨x, hx, rfl⟩ := Option.map_eq_some_iff.1 he
    obtain ⟨hi, rfl⟩ := List.getElem?_eq_some_iff.1 hx
    exact ⟨hr.c0 i hi, hr.c1 i hi, hr.c2 i hi, hr.c3 i hi, hr.c4 i hi, hr.c5 i hi, hr.c6 i hi, hr.c7 i hi, hr.c8 i hi, hr.c9 i hi, hr.c10 i hi, hr.c11 i hi, hr.c12 i hi⟩
theorem Ra.krow {w : World} {a : Option Addr} {n c : Nat} {xs : List Int} (h : Ra w (.slice a n c) xs) : KRow w a xs := fun i hi => by
  obtain ⟨a', c', e, _, h3⟩ := h
  simp only [Value.slice.injEq] at e
  obtain ⟨rfl, _, _⟩ := e
  obtain ⟨b, off, rfl, _, h4⟩ := h3 (by omega)
  exact ⟨b, off, rfl, h4 i _ (List.getElem?_eq_getElem hi)⟩
theorem findsL_ (xs : List EvA) (v : Value) (y : AskA) (w : World) (hk : Tk w) (hs : SlEvA w v xs) (hok : ∀ x ∈ xs, x.ok) (hl : xs.length ≤ 1256584717421) (hr : Ra w y.u y.xs) (hkl : y.xs.length ≤ 17592186043904) :
    Calls Tryz.prog 3 #[v, .agg y.cs] w fun r w' => r = .returned (.bool true) ∧ Touch [] w w' := by
  obtain ⟨a, m, rfl, hx⟩ := sl_rows hs
  obtain ⟨a', c', hu, hc, h3⟩ := hr
  have h4 : KRow w a' y.xs := Ra.krow (n := y.xs.length) (c := c') ⟨a', c', rfl, hc, h3⟩
  rw [show y.cs = #[.slice a' y.xs.length c', .int .i64 y.run, .int .i64 y.cl, .int .u16 y.k.sp, .string y.k.nm, .int .i64 y.ff, .int .i64 y.tt] by unfold AskA.cs; rw [hu]]
  exact finds_ w a m (xs.map EvA.z) a' c' y.xs y.run y.cl y.k.sp y.k.nm y.ff y.tt hx (fun e he => by obtain ⟨x, hx, rfl⟩ := List.mem_map.1 he; exact z_ok (hok x hx)) (by rw [List.length_map]; omega) hk h4 hkl
end Go.Proofs.YtcdikdiopklcgaaGreatDoor.Tr
namespace Go.Proofs.YtcdikdiopklcgaaGreatDoor.traceFinds
open Go.ChangeShapes Go.WideShapes Go.ChangeAt Go.RowKit
set_option linter.unusedVariables false

set_option maxRecDepth 100000 in
theorem contract (H : Type) (enc : TypeId × Value → H) (W : World) (base : Nat) (args : Array Value) (ds gs : List (DataW H)) (before : List MemPlace)
    (hval : ∀ (j : Nat) t v, Tryz.f3.params[j]? = some t → args[j]? = some v → Value.okWide Tryz.prog W .any base t v)
    (hW : DataW.Whole enc Tryz.prog Tryz.f3.params.toList Rows.traceFindsSpec.vars false W args.toList ds gs before) (hL : laidMetH Tryz.prog Rows.traceFindsRow.laid W)
    (hsz : (DataW.weightsEach Tryz.prog (Tryz.f3.params.toList ++ (OpenSpec.ofChange Rows.traceFindsSpec).bare.plain.varTypes Tryz.prog) (ds ++ gs)).all (· ≤ reachBytes) = true) :
    Calls Tryz.prog 3 args W fun e W' => ∃ v, e = .returned v ∧ Rows.traceFindsSpec.post enc Tryz.prog Tryz.f3 false true false false W args v W' := by
  have hW' := hW
  obtain ⟨p, q, hA0, hV, rfl, hfz, hnd⟩ := hW
  have hA : DataW.TrodAll enc Tryz.prog W 0 (fun _ => true) true Tryz.f3.params.toList args.toList ds p := hA0
  rw [Tryz.params3] at hA hval
  obtain ⟨v0, vs0, d0, ds0, p0, q0, hargs, rfl, rfl, h0, r0⟩ := trodAll_cons hA
  obtain ⟨v1, vs1, d1, ds1, p1, q1, rfl, rfl, rfl, h1, r1⟩ := trodAll_cons r0
  obtain ⟨rfl, rfl, rfl⟩ := trodAll_nil r1
  obtain rfl : args = #[v0, v1] := Array.ext' hargs
  obtain ⟨rfl, rfl⟩ := trodVars_none hV
  have k0 := h0
  have lt0 : ∀ x ∈ p0, x.block < W.heap.size := by obtain ⟨m, hm⟩ := k0; exact DataW.trod_lt m _ _ _ hm
  obtain ⟨xs0, sl0, wf0, hd0⟩ := open_EvAs (hval 0 22 v0 rfl rfl) h0
  have hn0 : xs0.length ≤ 1256584717421 := Tr.len_of hsz (j := 0) rfl rfl Tryz.underlying22 (by kernel_rfl) (bs := 112) (by decide) (hd0.imp (fun e => by rw [e]; rfl) id)
  have k1 := h1
  have lt1 : ∀ x ∈ p1, x.block < W.heap.size := by obtain ⟨m, hm⟩ := k1; exact DataW.trod_lt m _ _ _ hm
  obtain ⟨x1, rfl, row1, hd1⟩ := open_AskA (hval 1 28 v1 rfl rfl) h1
  have hn1 : x1.xs.length ≤ 17592186043904 := by
    rcases hd1 with e | ⟨es, sp, e1, e2, e3, e4, e5, rfl, he⟩
    · rw [e]; simp
    · have hb : Tryz.prog.bytesOf 3 = 8 := by kernel_rfl
      have hz := List.all_eq_true.1 (show (DataW.weightsEach Tryz.prog _ _).all (· ≤ reachBytes) = true from hsz) _ (DataW.weights_mem_each (j := 1) (t := 28) (d := .agg [.slice es sp, e1, e2, e3, e4, e5]) rfl rfl ((es.length + sp.length) * 8) (by
        simp only [DataW.weights, Tryz.underlying28]
        exact DataW.weights_mem_each (j := 0) (t := 23) (d := .slice es sp) rfl rfl _ (by simp [DataW.weights, Tryz.underlying23, hb])))
      simp only [decide_eq_true_eq] at hz
      have h3 : reachBytes = 140737488351232 := rfl
      omega
  clear hA0
  simp only [List.append_nil] at hW'
  have hK : Tr.Tk W := Tr.tk_row hL
  refine (Tr.findsL_ xs0 v0 x1 W hK sl0 wf0 hn0 row1.1 hn1).mono fun e W' ⟨he, hT⟩ => ?_
  have hg : Below W.heap.size W W' := hT.below (fun _ e => by cases e) (Nat.le_refl _)
  subst he
  exact ⟨_, rfl, _, _, _, [], _, [], hW', trodAll_cons_mk (shut_bool Tryz.underlying4 _) trodAll_mk0, (trodAll_cons_mk (Below.trod laidOut (by kernel_rfl) (of_decide_eq_true (by kernel_rfl)) k0 hg lt0) (trodAll_cons_mk (Below.trod laidOut (by kernel_rfl) (of_decide_eq_true (by kernel_rfl)) k1 hg lt1) trodAll_mk0)), rfl, hg.frame _, fun h => by cases h⟩

theorem reads (os : Os) {H : Type} (enc : TypeId × Value → H) : ∃ places, DataW.whole enc Tryz.prog ((World.doorLaid Tryz.prog 100 os).forCall (fun _ _ => 0) ⟨#[], #[.slice none 0 0, .agg #[.slice none 0 0, .int .i64 0, .int .i64 0, .int .u16 0, .string ⟨#[]⟩, .int .i64 0, .int .i64 0]], []⟩).memory Tryz.f3.params.toList Rows.traceFindsSpec.vars false ((#[.slice none 0 0, .agg #[.slice none 0 0, .int .i64 0, .int .i64 0, .int .u16 0, .string ⟨#[]⟩, .int .i64 0, .int .i64 0]] : Array Value)).toList 8 = some ([.nil, .agg [.nil, .lit (.int .i64 0), .lit (.int .i64 0), .agg [.lit (.int .u16 0), .lit (.string [])], .lit (.int .i64 0), .lit (.int .i64 0)]], [], places) :=
  ⟨[], by kernel_rfl⟩

set_option maxRecDepth 100000 in
theorem lifted (os : Os) (started : os.Started) (H : Type) (enc : TypeId × Value → H) (F : Stop.Interp) :
    ReturnsInHanded {} Tryz.checked os 3 .any ((OpenSpec.ofChange Rows.traceFindsSpec).preRow enc Tryz.prog Tryz.f3 Rows.traceFindsRow.domain false Rows.traceFindsRow.laid) (((OpenSpec.ofChange Rows.traceFindsSpec).at F).post enc Tryz.prog Tryz.f3 false true false false) := by
  obtain ⟨places, hx⟩ := reads os enc
  refine returnsInHanded_of_row (C := Tryz.checked) (s := OpenSpec.ofChange Rows.traceFindsSpec) Tr.own started (by kernel_rfl) Tryz.func3
    (witness_row_at (enc := enc) (C := Tryz.checked) false (World.doorLaid Tryz.prog 100 os) #[.slice none 0 0, .agg #[.slice none 0 0, .int .i64 0, .int .i64 0, .int .u16 0, .string ⟨#[]⟩, .int .i64 0, .int .i64 0]] rfl (by kernel_rfl) (by kernel_rfl) (by kernel_rfl)
      (OpenSpec.preRow_of_cond 8 hx (by kernel_rfl) (fun k hk => by cases hk) (by kernel_rfl) (Tr.door_met os _))) ?_
  intro W base args ds gs before hval hW _ _ hsz hL _ _
  exact contract H enc W base args ds gs before hval hW hL hsz

theorem said : Rows.TraceFindsSaid :=
  OpenClaim.holds_of_cond 3 Tryz.f3 rfl rfl rfl rfl rfl rfl rfl ⟨rfl, rfl, rfl, rfl, rfl⟩ rfl rfl rfl rfl rfl (by kernel_rfl) Tryz.func3 (by kernel_rfl)
    (of_decide_eq_true (by kernel_rfl)) (by unfold Func.isWrapper; first | (rw [if_pos (by decide +kernel)]; kernel_rfl) | (rw [if_neg (by decide +kernel)]; exact ⟨rfl, rfl⟩))
    (fun os started H enc _ F => by rw [OpenClaim.pre_eq_preRow]; exact lifted os started H enc F)

theorem plain (f : FuncId) (fn : Func) (hf : Tryz.pinned.checked.prog.funcNamed Rows.traceFindsRow.func = some f) (hfn : Tryz.pinned.checked.prog.funcs[f]? = some fn) :
    true = Tryz.pinned.checked.prog.looks [] ∧ ∀ (j : Nat) t, fn.params[j]? = some t → Tryz.pinned.checked.prog.wantsStandIn t = false := by
  obtain rfl : f = 3 := Option.some.inj ((show Tryz.prog.funcNamed Rows.traceFindsRow.func = some 3 by kernel_rfl).symm.trans hf) |>.symm
  obtain rfl : fn = Tryz.f3 := (Option.some.inj (Tryz.func3.symm.trans hfn)).symm
  refine ⟨by kernel_rfl, fun j t ht => ?_⟩
  rw [Tryz.params3] at ht
  have hm := Array.mem_of_getElem? ht
  have hall : ([22, 28].all fun u => !Tryz.prog.wantsStandIn u) = true := by kernel_rfl
  have hm : t ∈ [22, 28] := by simpa using hm
  exact (show Tryz.prog.wantsStandIn t = false by simpa using List.all_eq_true.1 hall t hm)

theorem card : Rows.TraceFindsCardSaid :=
  Claim7.holds_tied_plain_at .later [] _ _ _ _ said (fun _ h => by cases h) (by kernel_rfl) (fun _ h => by cases h) traceFinds_row_tie rfl ⟨rfl, rfl⟩ (by kernel_rfl) rfl plain (by kernel_rfl)
end Go.Proofs.YtcdikdiopklcgaaGreatDoor.traceFinds

namespace Go.Proofs.YtcdikdiopklcgaaGreatDoor
theorem traceFinds_holds : Rows.TraceFindsCardSaid := traceFinds.card
#print axioms traceFinds_holds
end Go.Proofs.YtcdikdiopklcgaaGreatDoor
