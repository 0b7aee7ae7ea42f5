/- The contracts of Clone, of every call of nobody, and of the law's awake; no conditions but those that each states. -/
import Derived.Test.YthpkkfmphoopnaaJwk
namespace Go.Proofs.Ythpkkfmphoopnaa.Re
open Go.RowKit Go.Maps Go.ChangeMaps
set_option linter.unusedVariables false
set_option linter.unusedSimpArgs false
set_option maxRecDepth 100000 in
theorem mclone_ (w : World) (mk : Option Nat) (G : List Int) (h : Mp w mk G) : Calls Try.prog 33 #[.map mk] w fun e w' => ∃ m2, e = .returned (.map m2) ∧ Mp w' m2 G ∧ (∀ b, m2 = some b → w.heap.size ≤ b) ∧ Touch [] w w' := by
  have hq := fun (w : World) (m : Option Nat) => run_eql_map_nil_sl (P := Try.prog) w 57 _ _ m Try.underlying57
  rcases h with ⟨rfl, e⟩ | ⟨d, rfl, h⟩
  · have HE := hid e
    clear e
    go_enter Try.func33, Try.ntmps33
    go_wp2
    go_ret
    exact ⟨none, rfl, Or.inl ⟨rfl, HE.out⟩, fun b hb => (by cases hb), Touch.refl _ _⟩
  · obtain ⟨es, cl, hb, hm⟩ := h.copy
    have HM := hid hm
    have hta := fun w v => run_typeAssert_map_sl (P := Try.prog) w 57 20 _ _ v Try.underlying57
    clear h hm
    go_enter Try.func33, Try.ntmps33
    go_wp2
    rw [run_callFunc_extern Try.func40 (by kernel_rfl) (by kernel_rfl) (by kernel_rfl) (e := Extern.MapsClone.clone) (by kernel_rfl), run_maps_clone_sl w 57 hb]
    simp only [Result.andThen]
    rw [Oper.upon_value]
    go_wp2
    go_ret
    exact ⟨some w.heap.size, rfl, Or.inr ⟨_, rfl, HM.out⟩, fun b hb => (by cases hb; exact Nat.le_refl _), (Touch.refl _ _).alloc _⟩
def ClE (e : Ending) (w w' : World) (S : Rz) (N : Nat) : Prop := ∃ b F, e = .returned (PT b) ∧ Rq w' b F S N ∧ Touch [] w w' ∧ ∀ q, q ∈ F → w.heap.size ≤ q
/-- Four parts that were copied one behind another make ready ones of their own. -/
theorem clone_fin {w w0 w1 w2 w3 w4 : World} {S : Rz} {N : Nat} {v u t : Value} {m : Option Nat} (hv : Iv S N) (t0 : Touch [] w w0) (k1 : Ow w1 w0.heap.size v S.pk ∧ Touch [] w0 w1) (k2 : Ow w2 w1.heap.size u S.ln ∧ Touch [] w1 w2) (k3 : Mp w3 m S.ln ∧ (∀ b, m = some b → w2.heap.size ≤ b) ∧ Touch [] w2 w3) (k4 : Ow w4 w3.heap.size t S.tl ∧ Touch [] w3 w4) :
    ClE (.returned (PT w4.heap.size)) w (w4.alloc (.cells (rc S v u m t) 59)) S N := by
  have ta : Touch [] w4 (w4.alloc (.cells (rc S v u m t) 59)) := (Touch.refl _ _).alloc _
  have z0 := t0.size
  have z1 := k1.2.size
  have z2 := k2.2.size
  have z3 := k3.2.2.size
  have z4 := k4.2.size
  have t34 := k4.2.trans' ta
  have t24 := k3.2.2.trans' t34
  have t14 := k2.2.trans' t24
  refine ⟨w4.heap.size, fpR w4.heap.size v u m t, rfl, ⟨v, u, m, t, rfl, ⟨heap_alloc_new w4 _, (k1.1.keep0 t14).base (Nat.zero_le _), (k2.1.keep0 t24).base (Nat.zero_le _), k3.1.keep t34 (fun _ _ e => by cases e), (k4.1.keep0 ta).base (Nat.zero_le _), ?_, ?_, ?_⟩, hv⟩, t0.trans' (k1.2.trans' t14), fun q hq => ?_⟩
  · intro q hq e
    have := (k1.1.lt hq).2
    have := (k2.1.lt e).1
    omega
  · intro q hq e
    have := (k1.1.lt hq).2
    have := (k4.1.lt e).1
    omega
  · intro q hq e
    have := (k2.1.lt hq).2
    have := (k4.1.lt e).1
    omega
  · rcases mem_fpR.1 hq with e | e | e | e | e
    · omega
    · have := (k1.1.lt e).1; omega
    · have := (k2.1.lt e).1; omega
    · have := k3.2.1 q e; omega
    · have := (k4.1.lt e).1; omega
section
variable {w : World} {b N : Nat} {v u t : Value} {m : Option Nat} {S : Rz}
set_option maxHeartbeats 4000000 in
theorem clone_ (h : Rm w b v u m t S) (hv : Iv S N) (hN : N ≤ 8796093022208) : Calls Try.prog 16 #[PT b] w fun e w' => ClE e w w' S N := by
  have HC : Hid (∀ x xs, Ow w 0 x xs → xs.length ≤ 17592186044416 → ∀ w', Touch [] w w' → Calls Try.prog 27 #[x] w' fun e w2 => ∃ a c, e = .returned (.slice a xs.length c) ∧ Touch [] w w2 ∧ (Ow w2 w'.heap.size (.slice a xs.length c) xs ∧ Touch [] w' w2)) := hid (fun x xs hx hl w' T => (copied_ w' x xs (hx.ra.keep0 T) hl).mono (fun e w2 => by rintro ⟨a, c, rfl, q1, q2⟩; exact ⟨a, c, rfl, T.trans' q2, q1, q2⟩))
  have HC1 := hid (HC.out v S.pk h.pk (by have := hv.k1; omega))
  have HC2 := hid (HC.out u S.ln h.ln (by have := hv.l1; omega))
  have HC4 := hid (HC.out t S.tl h.tl (by have := hv.t1; omega))
  have HC3 : Hid (∀ w', Touch [] w w' → Calls Try.prog 33 #[.map m] w' fun e w2 => ∃ m2, e = .returned (.map m2) ∧ Touch [] w w2 ∧ (Mp w2 m2 S.ln ∧ (∀ b, m2 = some b → w'.heap.size ≤ b) ∧ Touch [] w' w2)) := hid (fun w' T => (mclone_ w' m S.ln (h.mp.keep T (fun _ _ e => by cases e))).mono (fun e w2 => by rintro ⟨m2, rfl, q1, q2, q3⟩; exact ⟨m2, rfl, T.trans' q3, q1, q2, q3⟩))
  have HF := hid (fun w0 w1 w2 w3 w4 v u t m => @clone_fin w w0 w1 w2 w3 w4 S N v u t m hv)
  have hb := hid h.hb
  obtain ⟨av, cv, ev, _⟩ := h.pk.form
  obtain ⟨au, cu, eu, _⟩ := h.ln.form
  obtain ⟨at', ct, et, _⟩ := h.tl.form
  subst ev eu et
  have g0 : ∀ w', Touch [] w w' → w'.cell? ⟨b, 0, none⟩ = some (.int .i64 S.pol) := fun w' T => cell_at (j := 0) (T.keep hb.out (by simp)) rfl
  have g1 : ∀ w', Touch [] w w' → w'.cell? ⟨b, 1, none⟩ = some (.int .u64 (S.st : Int)) := fun w' T => cell_at (j := 1) (T.keep hb.out (by simp)) rfl
  have g2 : ∀ w', Touch [] w w' → w'.cell? ⟨b, 2, none⟩ = some (.slice av S.pk.length cv) := fun w' T => cell_at (j := 2) (T.keep hb.out (by simp)) rfl
  have g3 : ∀ w', Touch [] w w' → w'.cell? ⟨b, 3, none⟩ = some (.slice au S.ln.length cu) := fun w' T => cell_at (j := 3) (T.keep hb.out (by simp)) rfl
  have g4 : ∀ w', Touch [] w w' → w'.cell? ⟨b, 4, none⟩ = some (.map m) := fun w' T => cell_at (j := 4) (T.keep hb.out (by simp)) rfl
  have g5 : ∀ w', Touch [] w w' → w'.cell? ⟨b, 5, none⟩ = some (.slice at' S.tl.length ct) := fun w' T => cell_at (j := 5) (T.keep hb.out (by simp)) rfl
  clear h hv hb HC
  unfold PT rc at *
  go_enter Try.func16, Try.ntmps16
  go_upto_region 3 with fail
  have s0 : Touch [] w w.drew := (Touch.refl _ _).drew
  go_region_held3 (fun w' => Touch [] w w') (first | assumption | exact Touch.alloc (by assumption) _) (first
    | (go_at_call_of 27 (#[.slice av S.pk.length cv] : Array Value); refine (HC1.out _ (by assumption)).mono ?_; rintro e w1 ⟨a1, c1, rfl, t1, q1⟩; have Q1 := hid q1; clear q1)
    | (go_at_call_of 27 (#[.slice au S.ln.length cu] : Array Value); refine (HC2.out _ (by assumption)).mono ?_; rintro e w2 ⟨a2, c2, rfl, t2, q2⟩; have Q2 := hid q2; clear q2)
    | (go_at_call 33; refine (HC3.out _ (by assumption)).mono ?_; rintro e w3 ⟨m3, rfl, t3, q3⟩; have Q3 := hid q3; clear q3)
    | (go_at_call_of 27 (#[.slice at' S.tl.length ct] : Array Value); refine (HC4.out _ (by assumption)).mono ?_; rintro e w4 ⟨a4, c4, rfl, t4, q4⟩; have Q4 := hid q4; clear q4))
  all_goals
    go_wp2
    go_ret
    exact HF.out _ _ _ _ _ _ _ _ _ s0 Q1.out Q2.out Q3.out Q4.out
end
end Go.Proofs.Ythpkkfmphoopnaa.Re
