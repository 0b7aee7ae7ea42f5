/- A generic replacer is made; no conditions but those that each states. -/
import Derived.Test.YtlffleigahfdlaaGreatDoorFge
namespace Go.Proofs.YtlffleigahfdlaaGreatDoor.Tr
open Go.RowKit Go.Sort Go.Shelf Go.Maps Go.ChangeMaps
set_option linter.unusedVariables false
set_option linter.unusedSimpArgs false
def six2 : List Value := [.string ⟨#[37, 48, 97]⟩, .string ⟨#[10]⟩, .string ⟨#[37, 48, 100]⟩, .string ⟨#[13]⟩, .string ⟨#[37, 50, 53]⟩, .string ⟨#[37]⟩]
def Six2 (w : World) (g : Nat) : Prop := ∃ cs z, w.heap[g]? = some (.cells cs 9 z) ∧ ∀ (j : Nat) (u : Value), six2[j]? = some u → cs[j]? = some u
theorem Six2.cell {w : World} {g j : Nat} {u : Value} (h : Six2 w g) (hu : six2[j]? = some u) : w.cell? ⟨g, j, none⟩ = some u := by
  obtain ⟨cs, z, h0, h1⟩ := h
  exact cell_at h0 (h1 j u hu)
theorem Six2.keep {w w' : World} {g : Nat} {F : List Nat} (h : Six2 w g) (T : Touch F w w') (hF : ¬ g ∈ F) : Six2 w' g := by
  obtain ⟨cs, z, h0, h1⟩ := h
  exact ⟨cs, z, T.keep h0 hF, h1⟩
def zf (j : Nat) : Value := if j = 0 then .string ⟨#[]⟩ else if j = 1 then .int .i64 0 else if j = 2 then .string ⟨#[]⟩ else if j = 3 then .pointer none else if j = 4 then .slice none 0 0 else if j = 5 then .int .i64 0 else .int .u8 0
theorem zero262 : Tryz.zeroCells262 = ((List.range 262).map zf).toArray := by kernel_rfl
theorem gn_new (w : World) : Gn (w.alloc (.cells Tryz.zeroCells262 262)) w.heap.size zf 0 (mkN 0) := by
  have hg : ∀ j, j < 262 → Tryz.zeroCells262[j]? = some (zf j) := fun j hj => by
    rw [zero262, List.getElem?_toArray, List.getElem?_map, List.getElem?_range hj]
    rfl
  refine ⟨_, heap_alloc_new w _, by rw [zero262, List.size_toArray, List.length_map, List.length_range], fun j hj => hg j (by omega), hg 5 (by omega), fun b hb => ?_⟩
  rw [hg (6 + b) (by omega)]
  unfold zf
  rw [if_neg (by omega), if_neg (by omega), if_neg (by omega), if_neg (by omega), if_neg (by omega), if_neg (by omega)]
  rfl
theorem Gn.mark {w : World} {r n c : Nat} {rt : Nat → Value} (h : Gn w r rt 0 (mkN n)) (hc : sq[n]? = some c) (hb : c < 256) : Gn (w.setCell ⟨r, 6 + c, none⟩ (.int .u8 1)).drew r rt 0 (mkN (n + 1)) := by
  have e : mkN (n + 1) = fun j => if j = c then 1 else mkN n j := funext fun j => mkN_succ n j hc
  rw [e]
  exact (h.setN hb 1).touch ((Touch.refl [] _).drew)
theorem load237 {w : World} {r ts : Nat} {rt : Nat → Value} {f : Nat → Nat} (h : Gn w r rt ts f) : ∃ A : Array Value, A.size = 256 ∧ (∀ b, b < 256 → A[b]? = some (.int .u8 (f b : Int))) ∧ (Instr.loadAt 237 (.pointer (some ⟨r, 6, none⟩))).run Tryz.prog w = .ok (.agg A) w := by
  refine ⟨((List.range 256).map fun b => Value.int .u8 (f b : Int)).toArray, by rw [List.size_toArray, List.length_map, List.length_range], fun b hb => by rw [List.getElem?_toArray, List.getElem?_map, List.getElem?_range hb]; rfl, ?_⟩
  have hl := run_loadCells (P := Tryz.prog) w ⟨r, 6, none⟩ 256 (fun b => .int .u8 (f b : Int)) (fun j hj => by
    rw [show (⟨r, 6, none⟩ : Addr).add j = ⟨r, 6 + j, none⟩ by unfold Addr.add; split <;> simp_all]
    exact h.num hj)
  have hagg : (isAgg 237).run Tryz.prog w = .ok true w := by
    unfold isAgg
    rw [Sem.run_bind, run_underlying Tryz.underlying237 w]
    rfl
  obtain ⟨i, hi, hs⟩ : ∃ i, Tryz.prog.info? 237 = some i ∧ i.size = 256 := by
    have h : (Tryz.prog.info? 237).map (·.size) = some 256 := by kernel_rfl
    cases hq : Tryz.prog.info? 237 with
    | none => rw [hq] at h; cases h
    | some i => rw [hq] at h; exact ⟨i, rfl, Option.some.inj h⟩
  simp only [Instr.loadAt, Instr.sureAddr, Sem.run_bind, Sem.run_pure, Result.andThen]
  generalize (List.range 256).map (fun b => Value.int .u8 (f b : Int)) = L at *
  simp [loadVar, Sem.run_bind, hagg, sizeOf, typeInfo, hi, hs, hl]
theorem ix237 {X : Array Value} {I : Int} {v : Value} (h0 : 0 ≤ I) (h1 : I < 256) (hs : X.size = 256) (hA : X[I.toNat]? = some v) (w : World) : (Instr.index 237 (.agg X) (.int .i64 I)).run Tryz.prog w = .ok v w := by
  simp [Instr.index, run_underlying Tryz.underlying237, asIntOf, h0, h1, hA, go_sem]
theorem wpList_load237 {w : World} {r ts : Nat} {rt : Nat → Value} {f : Nat → Nat} {ops : Array Oper} {rest : List Oper} {o : Oper} {a : Act} {Q : Exit → Act → World → Prop} (h : Gn w r rt ts f) (hg : o.guard = none) (p : Operand) (hop : o.op = Op.load 237 p) (hp : a.eval p = .pointer (some ⟨r, 6, none⟩))
    (hK : ∀ X : Array Value, X.size = 256 → (∀ b, b < 256 → X[b]? = some (.int .u8 (f b : Int))) → wpList Tryz.prog ops Q rest (a.put o.dst (.agg X)) w) : wpList Tryz.prog ops Q (o :: rest) a w := by
  obtain ⟨X, hs, hX, hrun⟩ := load237 h
  refine wpList_plain hg fun K' hK' => ?_
  unfold Oper.wp
  simp only [execOp, hop, hp, hrun, Sem.run_bind, Sem.run_pure, Result.andThen_ok]
  exact hK' _ _ (hK X hs hX)
theorem Gn.congr {w : World} {r ts : Nat} {rt : Nat → Value} {f f' : Nat → Nat} (h : Gn w r rt ts f) (e : ∀ b, b < 256 → f b = f' b) : Gn w r rt ts f' := by
  obtain ⟨cs, h0, h1, h2, h3, h4⟩ := h
  exact ⟨cs, h0, h1, h2, h3, fun b hb => by rw [← e b hb]; exact h4 b hb⟩
def fP (i b : Nat) : Nat := if b < i then mapB b else mkN 9 b
theorem fP_succ (i : Nat) : fP (i + 1) = fun j => if j = i then mapB i else fP i j := funext fun j => by
  unfold fP
  by_cases e : j = i
  · subst e
    rw [if_pos (by omega)]; simp
  · simp only [e, if_false]
    by_cases h : j < i
    · rw [if_pos (by omega), if_pos h]
    · rw [if_neg (by omega), if_neg h]
theorem mapB_no {i : Nat} (h : mkN 9 i = 0) : mapB i = 6 := by
  rw [mkN_9] at h
  unfold mapB
  rw [if_neg (fun e => by rw [if_pos e] at h; omega)]
theorem mapB_yes {i : Nat} (h : ¬ mkN 9 i = 0) : mapB i = cntM i ∧ mkN 9 i = 1 := by
  rw [mkN_9] at h ⊢
  unfold mapB
  by_cases e : i ∈ sq
  · rw [if_pos e, if_pos e]; exact ⟨rfl, rfl⟩
  · rw [if_neg e] at h; omega
theorem At.ne {w : World} {a b : Nat} {x y : Array Value} (h1 : At w a x) (h2 : At w b y) (h : x ≠ y) : a ≠ b := fun e => by
  subst e
  unfold At at h1 h2
  rw [h1] at h2
  simp only [Option.some.injEq, Obj.cells.injEq] at h2
  exact h h2.1
theorem At.ne_tab {w : World} {a b : Nat} {x y : Array Value} (h1 : At w a x) (h2 : w.heap[b]? = some (.cells y 257 (0, 0))) : a ≠ b := fun e => by
  subst e
  unfold At at h1
  rw [h1] at h2
  simp at h2
theorem Gn.ne_at {w : World} {r a ts : Nat} {rt : Nat → Value} {f : Nat → Nat} {x : Array Value} (h1 : Gn w r rt ts f) (h2 : At w a x) : r ≠ a := fun e => by
  obtain ⟨cs, h0, _⟩ := h1
  subst e
  unfold At at h2
  rw [h0] at h2
  simp at h2
theorem Gn.ne_tab {w : World} {r a ts : Nat} {rt : Nat → Value} {f : Nat → Nat} {x : Array Value} (h1 : Gn w r rt ts f) (h2 : w.heap[a]? = some (.cells x 257 (0, 0))) : r ≠ a := fun e => by
  obtain ⟨cs, h0, _⟩ := h1
  subst e
  rw [h0] at h2
  simp at h2
def rtT (t0 : Nat) (j : Nat) : Value := if j = 4 then sT t0 else zf j
def TB (w : World) (b : Nat) (c : Array Value) : Prop := w.heap[b]? = some (.cells c 257 (0, 0))
/-- The three keys in a trie. -/
def Tri (w : World) (r : Nat) : Prop := ∃ t0 n1 n2 m k k2 q2, Gn w r (rtT t0) 6 mapB ∧ TB w t0 (tab0.setIfInBounds 0 (nP n1)) ∧ At w n1 (nd ⟨#[]⟩ 0 ⟨#[]⟩ none (sT (k2 + 1))) ∧ TB w (k2 + 1) ((tab0.setIfInBounds 1 (nP m)).setIfInBounds 2 (nP k2)) ∧ At w m (nd ⟨#[]⟩ 0 ⟨#[]⟩ none (sT (k + 1))) ∧ TB w (k + 1) ((tab0.setIfInBounds 4 (nP n2)).setIfInBounds 5 (nP k)) ∧ At w n2 (nd ⟨#[10]⟩ 6 ⟨#[]⟩ none sN) ∧ At w k (nd ⟨#[13]⟩ 4 ⟨#[]⟩ none sN) ∧ At w k2 (nd ⟨#[]⟩ 0 ⟨#[53]⟩ (nA q2) sN) ∧ At w q2 (nd ⟨#[37]⟩ 2 ⟨#[]⟩ none sN)
theorem tri_touch {w w' : World} {r : Nat} (h : Tri w r) (t : Touch [] w w') : Tri w' r := by
  obtain ⟨t0, n1, n2, m, k, k2, q2, G, h1, h2, h3, h4, h5, h6, h7, h8, h9⟩ := h
  exact ⟨t0, n1, n2, m, k, k2, q2, G.touch t, t.keep h1 (by simp), h2.keep t (by simp), t.keep h3 (by simp), h4.keep t (by simp), t.keep h5 (by simp), h6.keep t (by simp), h7.keep t (by simp), h8.keep t (by simp), h9.keep t (by simp)⟩
def Lay (w : World) (r : Nat) : Nat → World → Prop
  | 0, wr => ∃ t0, w.heap.size ≤ t0 ∧ Gn wr r (rtT t0) 6 mapB ∧ TB wr t0 tab0
  | 1, wr => ∃ t0 n1 n2, w.heap.size ≤ t0 ∧ w.heap.size ≤ n1 ∧ Gn wr r (rtT t0) 6 mapB ∧ TB wr t0 (tab0.setIfInBounds 0 (nP n1)) ∧ At wr n1 (nd ⟨#[]⟩ 0 ⟨#[48, 97]⟩ (nA n2) sN) ∧ At wr n2 (nd ⟨#[10]⟩ 6 ⟨#[]⟩ none sN)
  | 2, wr => ∃ t0 n1 n2 m k, w.heap.size ≤ t0 ∧ w.heap.size ≤ n1 ∧ Gn wr r (rtT t0) 6 mapB ∧ TB wr t0 (tab0.setIfInBounds 0 (nP n1)) ∧ At wr n1 (nd ⟨#[]⟩ 0 ⟨#[48]⟩ (nA m) sN) ∧ At wr m (nd ⟨#[]⟩ 0 ⟨#[]⟩ none (sT (k + 1))) ∧ TB wr (k + 1) ((tab0.setIfInBounds 4 (nP n2)).setIfInBounds 5 (nP k)) ∧ At wr n2 (nd ⟨#[10]⟩ 6 ⟨#[]⟩ none sN) ∧ At wr k (nd ⟨#[13]⟩ 4 ⟨#[]⟩ none sN)
  | _, wr => Tri wr r
theorem lay_touch {w U V : World} {r a : Nat} (h : Lay w r a U) (t : Touch [] U V) : Lay w r a V := by
  match a, h with
  | 0, ⟨t0, k0, G, tb⟩ => exact ⟨t0, k0, G.touch t, t.keep tb (by simp)⟩
  | 1, ⟨t0, n1, n2, k0, k1, G, tb, a1, a2⟩ => exact ⟨t0, n1, n2, k0, k1, G.touch t, t.keep tb (by simp), a1.keep t (by simp), a2.keep t (by simp)⟩
  | 2, ⟨t0, n1, n2, m, k, k0, k1, G, tb, a1, a2, tc, a3, a4⟩ => exact ⟨t0, n1, n2, m, k, k0, k1, G.touch t, t.keep tb (by simp), a1.keep t (by simp), a2.keep t (by simp), t.keep tc (by simp), a3.keep t (by simp), a4.keep t (by simp)⟩
  | _ + 3, h => exact tri_touch h t
theorem lay0 {w U : World} {r : Nat} (h : Lay w r 0 U) (t : Touch [] w U) : Calls Tryz.prog 195 #[nP r, .string ⟨#[37, 48, 97]⟩, .string ⟨#[10]⟩, .int .i64 6, nP r] U fun e w' => e = .returned (.tuple #[]) ∧ Lay w r 1 w' ∧ Touch [] w w' := by
  obtain ⟨t0, k0, G, tb⟩ := h
  refine (add_rN G rfl rfl tb ⟨#[10]⟩ 6).mono ?_
  rintro e w' ⟨he, t9, n1, n2, k1, k2, h1, h2, h3⟩
  exact ⟨he, ⟨t0, n1, n2, k0, Nat.le_trans t.size k1, G.keep t9 (by simpa using G.ne_tab tb), h1, h2, h3⟩, t.trans t9 (fun i hi => Or.inr (by simp only [List.mem_singleton] at hi; omega))⟩
theorem lay1 {w U : World} {r : Nat} (h : Lay w r 1 U) (t : Touch [] w U) : Calls Tryz.prog 195 #[nP r, .string ⟨#[37, 48, 100]⟩, .string ⟨#[13]⟩, .int .i64 4, nP r] U fun e w' => e = .returned (.tuple #[]) ∧ Lay w r 2 w' ∧ Touch [] w w' := by
  obtain ⟨t0, n1, n2, k0, k1, G, tb, a1, a2⟩ := h
  refine add_rA G rfl rfl (cell_at tb (j := 0) rfl) ⟨#[13]⟩ 4 (fun w' => Lay w r 2 w' ∧ Touch [] w w') (fun w1 tw => ?_)
  have G' := G.touch tw
  have a1' := a1.keep tw (by simp)
  have a2' := a2.keep tw (by simp)
  have tb' := tw.keep tb (by simp)
  refine (add_s1 a1' G' ⟨#[13]⟩ 4).mono ?_
  rintro e w' ⟨he, t9, m, kn, z1, z2, b1, b2, b3, b4⟩
  refine ⟨he, ⟨t0, n1, n2, m, kn, k0, k1, G'.keep t9 (by simpa using G'.ne_at a1'), t9.keep tb' (by simpa using Ne.symm (a1'.ne_tab tb')), b1, b2, b3, a2'.keep t9 (by simpa using a2'.ne a1' (fun e => by simp [nd] at e)), b4⟩, (t.trans' tw).trans t9 (fun i hi => Or.inr (by simp only [List.mem_singleton] at hi; omega))⟩
theorem lay2 {w U : World} {r : Nat} (h : Lay w r 2 U) (t : Touch [] w U) : Calls Tryz.prog 195 #[nP r, .string ⟨#[37, 50, 53]⟩, .string ⟨#[37]⟩, .int .i64 2, nP r] U fun e w' => e = .returned (.tuple #[]) ∧ Lay w r 3 w' ∧ Touch [] w w' := by
  obtain ⟨t0, n1, n2, m, k, k0, k1, G, tb, a1, a2, tc, a3, a4⟩ := h
  refine add_rB G rfl rfl (cell_at tb (j := 0) rfl) ⟨#[37]⟩ 2 (fun w' => Lay w r 3 w' ∧ Touch [] w w') (fun w1 tw => ?_)
  have G' := G.touch tw
  have a1' := a1.keep tw (by simp)
  have a2' := a2.keep tw (by simp)
  have a3' := a3.keep tw (by simp)
  have a4' := a4.keep tw (by simp)
  have tb' := tw.keep tb (by simp)
  have tc' := tw.keep tc (by simp)
  refine (add_sB a1' G' ⟨#[37]⟩ 2).mono ?_
  rintro e w' ⟨he, t9, kn, z1, b1, b2, q2, b3, b4⟩
  refine ⟨he, ⟨t0, n1, n2, m, k, kn, q2, G'.keep t9 (by simpa using G'.ne_at a1'), t9.keep tb' (by simpa using Ne.symm (a1'.ne_tab tb')), b1, b2, a2'.keep t9 (by simpa using a2'.ne a1' (fun e => by simp [nd] at e)), t9.keep tc' (by simpa using Ne.symm (a1'.ne_tab tc')), a3'.keep t9 (by simpa using a3'.ne a1' (fun e => by simp [nd] at e)), a4'.keep t9 (by simpa using a4'.ne a1' (fun e => by simp [nd] at e)), b3, b4⟩, (t.trans' tw).trans t9 (fun i hi => Or.inr (by simp only [List.mem_singleton] at hi; omega))⟩
set_option maxRecDepth 40000 in
set_option maxHeartbeats 8000000 in
theorem makeG_ {w : World} {g m : Nat} (hS : Six2 w g) (hm : 6 ≤ m) :
    Calls Tryz.prog 185 #[.slice (some ⟨g, 0, none⟩) 6 m] w fun e w' => ∃ r, e = .returned (nP r) ∧ Tri w' r ∧ Touch [] w w' := by
  have G0 := hid (gn_new w)
  have HS := hid hS
  have hgw : g < w.heap.size := by obtain ⟨cs, z, h0, _⟩ := hS; exact block_lt h0
  have HGW := hid hgw
  clear hS hgw
  go_enter Tryz.func185, Tryz.ntmps185
  go_wp2_with fail
  obtain ⟨r, hr⟩ : ∃ r, r = w.heap.size := ⟨_, rfl⟩
  rw [← hr] at G0 ⊢
  have HR := hid hr
  clear hr
  go_loopw [4] (fun i wr => ∃ a : Nat, i = .int .i64 (2 * (a : Int)) ∧ a ≤ 3 ∧ Hid (Gn wr r zf 0 (mkN (3 * a)) ∧ Touch [] w wr)) (fun i _ => 6 - (intOf i).toNat)
  case atStart => exact ⟨0, rfl, by omega, hid ⟨G0.out, (Touch.refl [] w).alloc _⟩⟩
  case round =>
    obtain ⟨a, rfl, ha, HA⟩ := hrel
    rcases (by omega : a = 0 ∨ a = 1 ∨ a = 2 ∨ a = 3) with rfl | rfl | rfl | rfl
    · have cS : wr.cell? ⟨g, 0, none⟩ = some (.string ⟨#[37, 48, 97]⟩) := (HS.out.keep HA.out.2 (by simp)).cell rfl
      go_wp2_with fail
      obtain ⟨wo, hwo⟩ : ∃ wo, wo = wr := ⟨_, rfl⟩
      rw [← hwo] at HA cS ⊢
      clear hwo wr
      go_loopw [6] (fun i wq => ∃ j : Nat, i = .int .i64 j ∧ j ≤ 3 ∧ Hid (Gn wq r zf 0 (mkN (0 + j)) ∧ Touch [] w wq)) (fun i _ => 3 - (intOf i).toNat)
      case atStart => exact ⟨0, rfl, by omega, hid HA.out⟩
      case round =>
        obtain ⟨j, rfl, hj, HJ⟩ := hrel
        clear cS
        rcases (by omega : j = 0 ∨ j = 1 ∨ j = 2 ∨ j = 3) with rfl | rfl | rfl | rfl
        · have hx : (ByteArray.mk #[37, 48, 97])[0].toNat = 37 := rfl
          have cc : wr.cell? ⟨r, 43, none⟩ = some (.int .u8 (mkN (0 + 0) 37 : Nat)) := HJ.out.1.num (b := 37) (by omega)
          have ff := HJ.out.1.froz 43
          go_wp2_with fail
          go_region
          go_wp2_with fail
          go_roundw
          case rel => exact ⟨1, rfl, by omega, hid ⟨HJ.out.1.mark (c := 37) rfl (by omega), (HJ.out.2.setCell (p := ⟨r, 43, none⟩) (Or.inr (Nat.le_of_eq HR.out.symm)) _).drew⟩⟩
          case measure => simp [intOf]
        · have hx : (ByteArray.mk #[37, 48, 97])[1].toNat = 48 := rfl
          have cc : wr.cell? ⟨r, 54, none⟩ = some (.int .u8 (mkN (0 + 1) 48 : Nat)) := HJ.out.1.num (b := 48) (by omega)
          have ff := HJ.out.1.froz 54
          go_wp2_with fail
          go_region
          go_wp2_with fail
          go_roundw
          case rel => exact ⟨2, rfl, by omega, hid ⟨HJ.out.1.mark (c := 48) rfl (by omega), (HJ.out.2.setCell (p := ⟨r, 54, none⟩) (Or.inr (Nat.le_of_eq HR.out.symm)) _).drew⟩⟩
          case measure => simp [intOf]
        · have hx : (ByteArray.mk #[37, 48, 97])[2].toNat = 97 := rfl
          have cc : wr.cell? ⟨r, 103, none⟩ = some (.int .u8 (mkN (0 + 2) 97 : Nat)) := HJ.out.1.num (b := 97) (by omega)
          have ff := HJ.out.1.froz 103
          go_wp2_with fail
          go_region
          go_wp2_with fail
          go_roundw
          case rel => exact ⟨3, rfl, by omega, hid ⟨HJ.out.1.mark (c := 97) rfl (by omega), (HJ.out.2.setCell (p := ⟨r, 103, none⟩) (Or.inr (Nat.le_of_eq HR.out.symm)) _).drew⟩⟩
          case measure => simp [intOf]
        · go_wp2_with fail
          go_roundw
          case rel => exact ⟨1, by simp, by omega, hid HJ.out⟩
          case measure => simp [intOf]
    · have cS : wr.cell? ⟨g, 2, none⟩ = some (.string ⟨#[37, 48, 100]⟩) := (HS.out.keep HA.out.2 (by simp)).cell rfl
      go_wp2_with fail
      obtain ⟨wo, hwo⟩ : ∃ wo, wo = wr := ⟨_, rfl⟩
      rw [← hwo] at HA cS ⊢
      clear hwo wr
      go_loopw [6] (fun i wq => ∃ j : Nat, i = .int .i64 j ∧ j ≤ 3 ∧ Hid (Gn wq r zf 0 (mkN (3 + j)) ∧ Touch [] w wq)) (fun i _ => 3 - (intOf i).toNat)
      case atStart => exact ⟨0, rfl, by omega, hid HA.out⟩
      case round =>
        obtain ⟨j, rfl, hj, HJ⟩ := hrel
        clear cS
        rcases (by omega : j = 0 ∨ j = 1 ∨ j = 2 ∨ j = 3) with rfl | rfl | rfl | rfl
        · have hx : (ByteArray.mk #[37, 48, 100])[0].toNat = 37 := rfl
          have cc : wr.cell? ⟨r, 43, none⟩ = some (.int .u8 (mkN (3 + 0) 37 : Nat)) := HJ.out.1.num (b := 37) (by omega)
          have ff := HJ.out.1.froz 43
          go_wp2_with fail
          go_region
          go_wp2_with fail
          go_roundw
          case rel => exact ⟨1, rfl, by omega, hid ⟨HJ.out.1.mark (c := 37) rfl (by omega), (HJ.out.2.setCell (p := ⟨r, 43, none⟩) (Or.inr (Nat.le_of_eq HR.out.symm)) _).drew⟩⟩
          case measure => simp [intOf]
        · have hx : (ByteArray.mk #[37, 48, 100])[1].toNat = 48 := rfl
          have cc : wr.cell? ⟨r, 54, none⟩ = some (.int .u8 (mkN (3 + 1) 48 : Nat)) := HJ.out.1.num (b := 48) (by omega)
          have ff := HJ.out.1.froz 54
          go_wp2_with fail
          go_region
          go_wp2_with fail
          go_roundw
          case rel => exact ⟨2, rfl, by omega, hid ⟨HJ.out.1.mark (c := 48) rfl (by omega), (HJ.out.2.setCell (p := ⟨r, 54, none⟩) (Or.inr (Nat.le_of_eq HR.out.symm)) _).drew⟩⟩
          case measure => simp [intOf]
        · have hx : (ByteArray.mk #[37, 48, 100])[2].toNat = 100 := rfl
          have cc : wr.cell? ⟨r, 106, none⟩ = some (.int .u8 (mkN (3 + 2) 100 : Nat)) := HJ.out.1.num (b := 100) (by omega)
          have ff := HJ.out.1.froz 106
          go_wp2_with fail
          go_region
          go_wp2_with fail
          go_roundw
          case rel => exact ⟨3, rfl, by omega, hid ⟨HJ.out.1.mark (c := 100) rfl (by omega), (HJ.out.2.setCell (p := ⟨r, 106, none⟩) (Or.inr (Nat.le_of_eq HR.out.symm)) _).drew⟩⟩
          case measure => simp [intOf]
        · go_wp2_with fail
          go_roundw
          case rel => exact ⟨2, by simp, by omega, hid HJ.out⟩
          case measure => simp [intOf]
    · have cS : wr.cell? ⟨g, 4, none⟩ = some (.string ⟨#[37, 50, 53]⟩) := (HS.out.keep HA.out.2 (by simp)).cell rfl
      go_wp2_with fail
      obtain ⟨wo, hwo⟩ : ∃ wo, wo = wr := ⟨_, rfl⟩
      rw [← hwo] at HA cS ⊢
      clear hwo wr
      go_loopw [6] (fun i wq => ∃ j : Nat, i = .int .i64 j ∧ j ≤ 3 ∧ Hid (Gn wq r zf 0 (mkN (6 + j)) ∧ Touch [] w wq)) (fun i _ => 3 - (intOf i).toNat)
      case atStart => exact ⟨0, rfl, by omega, hid HA.out⟩
      case round =>
        obtain ⟨j, rfl, hj, HJ⟩ := hrel
        clear cS
        rcases (by omega : j = 0 ∨ j = 1 ∨ j = 2 ∨ j = 3) with rfl | rfl | rfl | rfl
        · have hx : (ByteArray.mk #[37, 50, 53])[0].toNat = 37 := rfl
          have cc : wr.cell? ⟨r, 43, none⟩ = some (.int .u8 (mkN (6 + 0) 37 : Nat)) := HJ.out.1.num (b := 37) (by omega)
          have ff := HJ.out.1.froz 43
          go_wp2_with fail
          go_region
          go_wp2_with fail
          go_roundw
          case rel => exact ⟨1, rfl, by omega, hid ⟨HJ.out.1.mark (c := 37) rfl (by omega), (HJ.out.2.setCell (p := ⟨r, 43, none⟩) (Or.inr (Nat.le_of_eq HR.out.symm)) _).drew⟩⟩
          case measure => simp [intOf]
        · have hx : (ByteArray.mk #[37, 50, 53])[1].toNat = 50 := rfl
          have cc : wr.cell? ⟨r, 56, none⟩ = some (.int .u8 (mkN (6 + 1) 50 : Nat)) := HJ.out.1.num (b := 50) (by omega)
          have ff := HJ.out.1.froz 56
          go_wp2_with fail
          go_region
          go_wp2_with fail
          go_roundw
          case rel => exact ⟨2, rfl, by omega, hid ⟨HJ.out.1.mark (c := 50) rfl (by omega), (HJ.out.2.setCell (p := ⟨r, 56, none⟩) (Or.inr (Nat.le_of_eq HR.out.symm)) _).drew⟩⟩
          case measure => simp [intOf]
        · have hx : (ByteArray.mk #[37, 50, 53])[2].toNat = 53 := rfl
          have cc : wr.cell? ⟨r, 59, none⟩ = some (.int .u8 (mkN (6 + 2) 53 : Nat)) := HJ.out.1.num (b := 53) (by omega)
          have ff := HJ.out.1.froz 59
          go_wp2_with fail
          go_region
          go_wp2_with fail
          go_roundw
          case rel => exact ⟨3, rfl, by omega, hid ⟨HJ.out.1.mark (c := 53) rfl (by omega), (HJ.out.2.setCell (p := ⟨r, 59, none⟩) (Or.inr (Nat.le_of_eq HR.out.symm)) _).drew⟩⟩
          case measure => simp [intOf]
        · go_wp2_with fail
          go_roundw
          case rel => exact ⟨3, by simp, by omega, hid HJ.out⟩
          case measure => simp [intOf]
    · go_wp2_with (refine wpList_load237 HA.out.1 rfl _ rfl rfl ?_; intro X hXs hX)
      obtain ⟨wo, hwo⟩ : ∃ wo, wo = wr := ⟨_, rfl⟩
      rw [← hwo] at HA ⊢
      clear hwo wr
      have HX := hid (And.intro hXs hX)
      clear hXs hX
      go_loopw [41] (fun i wq => ∃ I : Int, i = .int .i64 I ∧ 0 ≤ I ∧ I ≤ 256 ∧ Hid (Gn wq r zf (cntM I.toNat) (mkN 9) ∧ Touch [] w wq)) (fun i _ => 256 - (intOf i).toNat)
      case atStart => exact ⟨0, rfl, by omega, by omega, hid ⟨HA.out.1, HA.out.2⟩⟩
      case round =>
        obtain ⟨I, rfl, hI0, hI, HJ⟩ := hrel
        by_cases hlt : I < 256
        · have hix := ix237 hI0 hlt HX.out.1 (HX.out.2 I.toNat (by omega))
          obtain ⟨V, hV⟩ : ∃ V : Int, ((mkN 9 I.toNat : Nat) : Int) = V := ⟨_, rfl⟩
          rw [hV] at hix
          obtain ⟨C, hC⟩ : ∃ C : Int, ((cntM I.toNat : Nat) : Int) = C := ⟨_, rfl⟩
          have c5 : wr.cell? ⟨r, 5, none⟩ = some (.int .i64 C) := by rw [← hC]; exact HJ.out.1.size
          have f5 := HJ.out.1.froz 5
          have hcv : cntM I.toNat ≤ 6 := cntM_le _ (by omega)
          have hs : ((cntM (I + 1).toNat : Nat) : Int) = C + V := by
            rw [show (I + 1).toNat = I.toNat + 1 by omega, cntM_succ, ← hC, ← hV]; omega
          have hv1 : mkN 9 I.toNat ≤ 1 := by rw [mkN_9]; split <;> omega
          have HN := hid (And.intro hs (show 0 ≤ I + 1 ∧ I + 1 ≤ 256 by omega))
          have w1 : IntKind.i64.wrap V = V := by rw [IntKind.wrap_i64]; omega
          have w2 : IntKind.i64.wrap (C + V) = C + V := by rw [IntKind.wrap_i64]; omega
          have w3 : IntKind.i64.wrap (I + 1) = I + 1 := by rw [IntKind.wrap_i64]; omega
          have w4 : IntKind.u8.wrap V = V := by rw [IntKind.wrap_u8]; omega
          have HI0 := hid hI0
          have HV := hid hV
          clear hcv hs hv1 hC hV
          go_wp2_with fail
          go_roundw
          case rel => exact ⟨I + 1, rfl, HN.out.2.1, HN.out.2.2, hid ⟨by have := HJ.out.1.setS (cntM (I + 1).toNat); rw [HN.out.1] at this; exact this, HJ.out.2.setCell (p := ⟨r, 5, none⟩) (Or.inr (Nat.le_of_eq HR.out.symm)) _⟩⟩
          case measure => simp only [intOf]; have := HI0.out; omega
        · have e256 : I.toNat = 256 := by omega
          have HB : Hid (Gn wr r zf 6 (mkN 9) ∧ Touch [] w wr) := hid (by have := HJ.out; rw [e256, cntM_256] at this; exact this)
          clear e256 hI0 hI HJ
          go_wp2_with (refine wpList_load237 HB.out.1 rfl _ rfl rfl ?_; intro Y hYs hY)
          have HY := hid (And.intro hYs hY)
          obtain ⟨wp, hwp⟩ : ∃ wp, wp = wr := ⟨_, rfl⟩
          rw [← hwp] at HB ⊢
          clear hwp wr hYs hY
          go_loopw [9, 58] (fun c i wq => ∃ I : Int, i = .int .i64 I ∧ 0 ≤ I ∧ I ≤ 256 ∧ c = .int .u8 (cntM I.toNat : Nat) ∧ Hid (Gn wq r zf 6 (fP I.toNat) ∧ Touch [] w wq)) (fun _ i _ => 256 - (intOf i).toNat)
          case atStart => exact ⟨0, rfl, by omega, by omega, rfl, hid ⟨HB.out.1.congr (fun b _ => by unfold fP; rw [if_neg (by omega)]), HB.out.2⟩⟩
          case round =>
            obtain ⟨I, rfl, hI0, hI, rfl, HJ⟩ := hrel
            by_cases hlt : I < 256
            · have hix := ix237 hI0 hlt HY.out.1 (HY.out.2 I.toNat (by omega))
              obtain ⟨C, hC⟩ : ∃ C : Int, ((cntM I.toNat : Nat) : Int) = C := ⟨_, rfl⟩
              have c5 : wr.cell? ⟨r, 5, none⟩ = some (.int .i64 6) := HJ.out.1.size
              have f5 := HJ.out.1.froz (6 + I.toNat)
              have c6 := HJ.out.1.num (b := I.toNat) (by omega)
              have hcv : cntM I.toNat ≤ 6 := cntM_le _ (by omega)
              have e1 : (I + 1).toNat = I.toNat + 1 := by omega
              have w3 : IntKind.i64.wrap (I + 1) = I + 1 := by rw [IntKind.wrap_i64]; omega
              have HN := hid (show 0 ≤ I + 1 ∧ I + 1 ≤ 256 by omega)
              have HI0 := hid (And.intro hI0 hlt)
              by_cases hm0 : mkN 9 I.toNat = 0
              · rw [hm0] at hix
                have HF : Hid (Gn ((wr.setCell ⟨r, 6 + I.toNat, none⟩ (.int .u8 6)).drew) r zf 6 (fP (I + 1).toNat)) := hid (by
                  rw [e1, fP_succ, mapB_no hm0]
                  exact (HJ.out.1.setN (b := I.toNat) (by omega) 6).touch ((Touch.refl [] _).drew))
                have HCN : Hid (cntM (I + 1).toNat = cntM I.toNat) := hid (by rw [e1, cntM_succ, hm0, Nat.add_zero])
                rw [hC]
                have HC := hid hC
                clear hcv hC e1 hm0
                go_wp2_with fail
                go_region
                go_wp2_with fail
                go_roundw
                case rel => exact ⟨I + 1, rfl, HN.out.1, HN.out.2, by rw [HCN.out, HC.out], hid ⟨HF.out, (HJ.out.2.setCell (p := ⟨r, 6 + I.toNat, none⟩) (Or.inr (Nat.le_of_eq HR.out.symm)) _).drew⟩⟩
                case measure => simp only [intOf]; have := HI0.out; omega
              · obtain ⟨hb1, hb2⟩ := mapB_yes hm0
                rw [hb2] at hix
                have HF : Hid (Gn (wr.setCell ⟨r, 6 + I.toNat, none⟩ (.int .u8 C)) r zf 6 (fP (I + 1).toNat)) := hid (by
                  rw [e1, fP_succ, hb1, ← hC]
                  exact HJ.out.1.setN (b := I.toNat) (by omega) (cntM I.toNat))
                have HCN : Hid (((cntM (I + 1).toNat : Nat) : Int) = C + 1) := hid (by rw [e1, cntM_succ, hb2, ← hC]; omega)
                have w5 : IntKind.u8.wrap (C + 1) = C + 1 := by rw [IntKind.wrap_u8]; omega
                rw [hC]
                clear hcv hC e1 hm0 hb1 hb2
                go_wp2_with fail
                go_roundw
                case rel => exact ⟨I + 1, rfl, HN.out.1, HN.out.2, by rw [HCN.out], hid ⟨HF.out, HJ.out.2.setCell (p := ⟨r, 6 + I.toNat, none⟩) (Or.inr (Nat.le_of_eq HR.out.symm)) _⟩⟩
                case measure => simp only [intOf]; have := HI0.out; omega
            · have e256 : I.toNat = 256 := by omega
              have HZ : Hid (Gn wr r zf 6 mapB ∧ Touch [] w wr) := hid ⟨by have := HJ.out.1; rw [e256] at this; exact this.congr (fun b hb => if_pos hb), HJ.out.2⟩
              have c5 : wr.cell? ⟨r, 5, none⟩ = some (.int .i64 6) := HZ.out.1.size
              have c4 : wr.cell? ⟨r, 4, none⟩ = some (.slice none 0 0) := HZ.out.1.root (j := 4) (by omega)
              have f4 := HZ.out.1.froz 4
              have hrs := HZ.out.1.lt
              have HM := make6
              clear e256 hI0 hI HJ
              go_wp2_with fail
              obtain ⟨V1, hV1⟩ : ∃ V1, V1 = wr.setCell ⟨r, 4, none⟩ (.slice (some ⟨wr.heap.size, 0, none⟩) 6 6) := ⟨_, rfl⟩
              obtain ⟨W3, hW3⟩ : ∃ W3, W3 = V1.alloc (.cells tab0 257) := ⟨_, rfl⟩
              rw [← hV1, ← hW3]
              have L0 : Hid (Lay w r 0 W3 ∧ Touch [] w W3) := hid (by
                have z1 : V1.heap.size = wr.heap.size := by rw [hV1]; simp [World.setCell]
                have g1 : Gn V1 r (rtT wr.heap.size) 6 mapB := by rw [hV1]; exact HZ.out.1.setR (k := 4) (by omega) _
                have t1 : Touch [] V1 W3 := by rw [hW3]; exact (Touch.refl [] V1).alloc _
                have tw : Touch [] w V1 := by rw [hV1]; exact HZ.out.2.setCell (p := ⟨r, 4, none⟩) (Or.inr (Nat.le_of_eq HR.out.symm)) _
                exact ⟨⟨wr.heap.size, HZ.out.2.size, g1.touch t1, by rw [hW3, ← z1]; exact heap_alloc_new V1 _⟩, tw.trans' t1⟩)
              clear hV1 hW3 c5 c4 f4 hrs HM HZ
              go_loopw [12] (fun i wq => ∃ a : Nat, i = .int .i64 (2 * (a : Int)) ∧ a ≤ 3 ∧ Hid (Lay w r a wq ∧ Touch [] w wq)) (fun i _ => 6 - (intOf i).toNat)
              case atStart => exact ⟨0, rfl, by omega, L0⟩
              case round =>
                obtain ⟨a, rfl, ha2, HL⟩ := hrel
                have S6 := hid (HS.out.keep HL.out.2 (by simp))
                rcases (by omega : a = 0 ∨ a = 1 ∨ a = 2 ∨ a = 3) with rfl | rfl | rfl | rfl
                · have s0 : wr.cell? ⟨g, 0, none⟩ = some (.string ⟨#[37, 48, 97]⟩) := S6.out.cell rfl
                  have s1 : wr.cell? ⟨g, 1, none⟩ = some (.string ⟨#[10]⟩) := S6.out.cell rfl
                  go_wp2_with fail
                  refine wp_region_still_tail 17 mixed (by kernel_rfl) ?_
                  obtain ⟨U, hU⟩ : ∃ U, U = wr.drew := ⟨_, rfl⟩
                  rw [show ({ heap := wr.heap, tape := wr.tape, drawn := wr.drawn + 1, os := wr.os, output := wr.output } : World) = U from hU.symm]
                  have HU := hid (show Touch [] wr U by rw [hU]; exact (Touch.refl [] wr).drew)
                  have d0 := tcell HU.out s0
                  have d1 := tcell HU.out s1
                  clear hU s0 s1
                  have hw1 : IntKind.i64.wrap 1 = 1 := by rw [IntKind.wrap_i64]; omega
                  have hw2 : IntKind.i64.wrap 6 = 6 := by rw [IntKind.wrap_i64]; omega
                  simp only [List.take_succ_cons, List.take_zero, List.drop_succ_cons, List.drop_zero]
                  iterate 17 still_step
                  refine wpStill_nil ?_
                  go_wp2_with fail
                  refine (lay0 ((lay_touch HL.out.1 HU.out)) (HL.out.2.trans' HU.out)).mono ?_
                  rintro e w9 ⟨rfl, q9, t9⟩
                  have Q9 := hid (And.intro q9 t9)
                  clear q9 t9 d0 d1 hw1 hw2
                  go_wp2_with fail
                  go_roundw
                  case rel => exact ⟨1, by simp, by omega, Q9⟩
                  case measure => simp [intOf]
                · have s0 : wr.cell? ⟨g, 2, none⟩ = some (.string ⟨#[37, 48, 100]⟩) := S6.out.cell rfl
                  have s1 : wr.cell? ⟨g, 3, none⟩ = some (.string ⟨#[13]⟩) := S6.out.cell rfl
                  go_wp2_with fail
                  refine wp_region_still_tail 17 mixed (by kernel_rfl) ?_
                  obtain ⟨U, hU⟩ : ∃ U, U = wr.drew := ⟨_, rfl⟩
                  rw [show ({ heap := wr.heap, tape := wr.tape, drawn := wr.drawn + 1, os := wr.os, output := wr.output } : World) = U from hU.symm]
                  have HU := hid (show Touch [] wr U by rw [hU]; exact (Touch.refl [] wr).drew)
                  have d0 := tcell HU.out s0
                  have d1 := tcell HU.out s1
                  clear hU s0 s1
                  have hw1 : IntKind.i64.wrap 3 = 3 := by rw [IntKind.wrap_i64]; omega
                  have hw2 : IntKind.i64.wrap 4 = 4 := by rw [IntKind.wrap_i64]; omega
                  simp only [List.take_succ_cons, List.take_zero, List.drop_succ_cons, List.drop_zero]
                  iterate 17 still_step
                  refine wpStill_nil ?_
                  go_wp2_with fail
                  refine (lay1 ((lay_touch HL.out.1 HU.out)) (HL.out.2.trans' HU.out)).mono ?_
                  rintro e w9 ⟨rfl, q9, t9⟩
                  have Q9 := hid (And.intro q9 t9)
                  clear q9 t9 d0 d1 hw1 hw2
                  go_wp2_with fail
                  go_roundw
                  case rel => exact ⟨2, by simp, by omega, Q9⟩
                  case measure => simp [intOf]
                · have s0 : wr.cell? ⟨g, 4, none⟩ = some (.string ⟨#[37, 50, 53]⟩) := S6.out.cell rfl
                  have s1 : wr.cell? ⟨g, 5, none⟩ = some (.string ⟨#[37]⟩) := S6.out.cell rfl
                  go_wp2_with fail
                  refine wp_region_still_tail 17 mixed (by kernel_rfl) ?_
                  obtain ⟨U, hU⟩ : ∃ U, U = wr.drew := ⟨_, rfl⟩
                  rw [show ({ heap := wr.heap, tape := wr.tape, drawn := wr.drawn + 1, os := wr.os, output := wr.output } : World) = U from hU.symm]
                  have HU := hid (show Touch [] wr U by rw [hU]; exact (Touch.refl [] wr).drew)
                  have d0 := tcell HU.out s0
                  have d1 := tcell HU.out s1
                  clear hU s0 s1
                  have hw1 : IntKind.i64.wrap 5 = 5 := by rw [IntKind.wrap_i64]; omega
                  have hw2 : IntKind.i64.wrap 2 = 2 := by rw [IntKind.wrap_i64]; omega
                  simp only [List.take_succ_cons, List.take_zero, List.drop_succ_cons, List.drop_zero]
                  iterate 17 still_step
                  refine wpStill_nil ?_
                  go_wp2_with fail
                  refine (lay2 ((lay_touch HL.out.1 HU.out)) (HL.out.2.trans' HU.out)).mono ?_
                  rintro e w9 ⟨rfl, q9, t9⟩
                  have Q9 := hid (And.intro q9 t9)
                  clear q9 t9 d0 d1 hw1 hw2
                  go_wp2_with fail
                  go_roundw
                  case rel => exact ⟨3, by simp, by omega, Q9⟩
                  case measure => simp [intOf]
                · go_wp2_with fail
                  go_ret
                  exact ⟨r, rfl, HL.out.1, HL.out.2⟩
end Go.Proofs.YtlffleigahfdlaaGreatDoor.Tr
