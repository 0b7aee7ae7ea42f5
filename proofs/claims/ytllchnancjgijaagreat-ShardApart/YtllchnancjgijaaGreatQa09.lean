/- The contracts of a group's small functions: its ticks, its parts, a seat, a run that was begun, who may join; no conditions but those that each states. -/
import Derived.Test.YtllchnancjgijaaGreatQa04
import Derived.Test.YtllchnancjgijaaGreatQa06
import Derived.Test.YtllchnancjgijaaGreatQa08
import Derived.Test.YtllchnancjgijaaGreatQa01
set_option linter.unusedVariables false
set_option linter.unusedSimpArgs false
set_option maxRecDepth 100000
namespace Go.Proofs.YtllchnancjgijaaGreat
open Go.RowKit Go.Maps Go.ChangeMaps
section
variable {w w' : World} {v : Value} {xs : List Int}
theorem Rd.box {k : Nat} {cs : Array Value} {t : TypeId} {z : Nat × Nat} (hr : Rd w v xs) (hb : w.heap[k]? = some (.cells cs t z)) (ht : t ≠ 3) (T : Touch [k] w w') : Rd w' v xs := by
 obtain ⟨a, c, rfl, h1, h2, h0, h3⟩ := hr
 refine ⟨a, c, rfl, h1, h2, h0, ?_⟩
 rcases h3 with e | ⟨b, cur, e, z, rfl, hb', hc⟩
 ·exact Or.inl e
 ·refine Or.inr ⟨b, cur, e, z, rfl, T.keep hb' (fun e2 => ?_), hc⟩
  simp only [List.mem_singleton] at e2
  rw [e2, hb] at hb'
  simp at hb'
  exact ht hb'.2.1
theorem Rd.memo {m : Nat} {F : List Nat} {c : Me.Cf} {now : Int} {ys : List Me.En} (hr : Rd w v xs) (h : Me.Mq w m F c now ys) (T : Touch F w w') : Rd w' v xs := by
 obtain ⟨a, cc, rfl, h1, h2, h0, h3⟩ := hr
 refine ⟨a, cc, rfl, h1, h2, h0, ?_⟩
 rcases h3 with e | ⟨b, cur, e, z, rfl, hb', hc⟩
 ·exact Or.inl e
 ·exact Or.inr ⟨b, cur, e, z, rfl, T.keep hb' (h.away hb' (by decide) (by decide) (by decide)), hc⟩
end
def jcs (J : Jd) (v : Value) : Array Value := #[.int .i64 J.how, .int .i64 J.run, .bool J.bg, .int .i64 J.o.1, .int .i64 J.o.2.1, .int .i64 J.o.2.2.1, .int .i64 J.o.2.2.2, v]
def jv (J : Jd) (v : Value) : Value := .agg (jcs J v)
def jz : Array Value := #[.int .i64 0, .int .i64 0, .bool false, .int .i64 0, .int .i64 0, .int .i64 0, .int .i64 0, .slice none 0 0]
def Snt (w : World) (v : Value) (xs : List Int) : Prop := Rd w v xs ∧ ∃ a n c, v = .slice a n c
section
variable {w w' : World} {g : Nat} {P : Pt} {F : List Nat} {X : Gp} {N : Cn}
theorem check_ (h : Gq w g P F X N) (n : Int) : Calls Tryz.prog 59 #[PT g, .int .i64 n] w fun e w' => e = .returned (.int .i64 (tkE X n)) ∧ w' = w := by
 have c4 := h.cs.c4
 have H := Me.is39 n
 unfold tkE Me.tickE PT
 clear h
 generalize X.now = now at *
 generalize Me.isT n = r at *
 cases r
 ·go_enter Tryz.func59, Tryz.ntmps59
  go_wp2_with (go_at_call 96; refine (H _).mono ?_; rintro e w2 ⟨rfl, rfl⟩)
  go_ret
  exact ⟨rfl, rfl⟩
 ·by_cases hb : n < now
  ·go_enter Tryz.func59, Tryz.ntmps59
   go_wp2_with (go_at_call 96; refine (H _).mono ?_; rintro e w2 ⟨rfl, e2⟩; rw [e2]; clear e2 w2)
   go_ret
   simp [hb]
  ·go_enter Tryz.func59, Tryz.ntmps59
   go_wp2_with (go_at_call 96; refine (H _).mono ?_; rintro e w2 ⟨rfl, e2⟩; rw [e2]; clear e2 w2)
   go_ret
   simp [hb]
theorem sit_ (h : Gq w g P F X N) {x r t : Int} (hx : Lv.Wf (x, r, t)) (hN : N.s ≤ 4400000000000) : Calls Tryz.prog 93 #[PT g, .int .i64 x, .int .i64 r, .int .i64 t] w fun e w' => e = .returned (.tuple #[]) ∧ GqE w w' g P F (sitX X x r t) { N with s := N.s + 1 } := by
 obtain ⟨Fs, hs, -, hst⟩ := h.sea
 have HS : Hid (Calls Tryz.prog 134 #[PT P.s, .agg #[.int .i64 x, .int .i64 r, .int .i64 t]] w fun e w' => (∃ E : Int, e = .returned (.int .i64 E)) ∧ GqE w w' g P F (sitX X x r t) { N with s := N.s + 1 }) := hid ((Lv.sit_ hs hx hN).mono (fun e w' hh => ⟨⟨_, hh.1⟩, hst _ _ _ _ hh.2⟩))
 have c3 := h.cs.c3
 clear h hs hst
 generalize sitX X x r t = Y at *
 unfold PT at *
 go_enter Tryz.func93, Tryz.ntmps93
 go_wp2_with (go_at_call 134; refine HS.out.mono ?_; rintro e w2 ⟨⟨E, rfl⟩, q2⟩; have Q2 := hid q2; clear q2)
 go_end0
 exact ⟨rfl, Q2.out⟩
set_option maxHeartbeats 4000000 in
theorem begun_ (h : Gq w g P F X N) {hh r : Int} (hr : W64 r) (hN : N.b ≤ 6000000000000) : Calls Tryz.prog 95 #[PT g, .int .i64 hh, .int .i64 r] w fun e w' => ∃ v, e = .returned (jv (begJ X hh r) v) ∧ Snt w' v (begJ X hh r).sent ∧ GqE w w' g P F (begX X r) { N with b := N.b + 1 } := by
 obtain ⟨V, hV⟩ : ∃ V, V = w.alloc (.cells jz 45) := ⟨_, rfl⟩
 have tv : Touch [] w V := by rw [hV]; exact (Touch.refl _ _).alloc _
 have hb : V.heap[w.heap.size]? = some (.cells jz 45 (0, 0)) := by rw [hV]; exact heap_alloc_new w _
 have hlt := h.lt
 have hq : GqE V V.drew g P F X N := GqE.same (h.keep0 tv) ((Touch.refl _ _).drew)
 have hnb : ¬ w.heap.size ∈ F := fun e => by have := hlt _ e; omega
 have HA : Hid (Calls Tryz.prog 137 #[PT P.b, .int .i64 X.now, .int .i64 r] V.drew fun e w' => ∃ a n c E, e = .returned (.tuple #[.slice a n c, .int .i64 E]) ∧ Rd w' (.slice a n c) (begJ X hh r).sent ∧ GqE V w' g P F (begX X r) { N with b := N.b + 1 }) := hid (by
  obtain ⟨F1, q1, -, q2⟩ := hq.sub
  obtain ⟨Fb, ⟨sl, d, rfl, hm, hv⟩, -, hst⟩ := q1.bat
  refine (Ba.add_ hm hv hN hr).mono ?_
  rintro e w2 ⟨v, rfl, r1, r2, a, n, c, rfl⟩
  exact ⟨a, n, c, _, rfl, r2, q2 _ _ _ (hst _ _ _ r1)⟩)
 have HF : Hid (∀ w2 w3 v, GqE V w2 g P F (begX X r) { N with b := N.b + 1 } → Rd w2 v (begJ X hh r).sent → (∃ a n c, v = .slice a n c) → Touch [w.heap.size] w2 w3 → Snt w3 v (begJ X hh r).sent ∧ GqE w w3 g P F (begX X r) { N with b := N.b + 1 }) := hid (fun w2 w3 v q r1 r2 t3 =>
  ⟨⟨r1.box (q.bk hb hnb) (by decide) t3, r2⟩, GqE.box tv q hlt (fun b hbb => by simp only [List.mem_singleton] at hbb; subst hbb; exact ⟨Nat.le_refl _, block_lt hb⟩) t3⟩)
 have HB : Hid (∀ w2, GqE V w2 g P F (begX X r) { N with b := N.b + 1 } → w2.heap[w.heap.size]? = some (.cells jz 45 (0, 0))) := hid (fun w2 q => q.bk hb hnb)
 have s0 : GmC V.drew g P X.now := hq.cs
 have C2 : ∀ w', GmC w' g P X.now → w'.cell? ⟨g, 2, none⟩ = some (.pointer (some ⟨P.b, 0, none⟩)) := fun _ h => h.c2
 have C4 : ∀ w', GmC w' g P X.now → w'.cell? ⟨g, 4, none⟩ = some (.int .i64 X.now) := fun _ h => h.c4
 have HC : Hid (∀ w2, GqE V w2 g P F (begX X r) { N with b := N.b + 1 } → GmC w2 g P X.now) := hid (fun w2 q => q.cs)
 clear h hb hlt hq hnb tv hr hN
 unfold jz at hV HB
 unfold jv jcs
 generalize begX X r = Y at *
 have e1 : (begJ X hh r).how = hh := rfl
 have e2 : (begJ X hh r).run = r := rfl
 have e3 : (begJ X hh r).bg = true := rfl
 have e4 : (begJ X hh r).o = (0, 0, 0, 0) := rfl
 rw [e1, e2, e3, e4]
 clear e1 e2 e3 e4
 simp only
 generalize (begJ X hh r).sent = ss at *
 generalize X.now = now at *
 unfold PT at *
 go_enter Tryz.func95, Tryz.ntmps95
 go_upto_region 1 with fail
 rw [← hV]
 clear hV
 refine wp_region_H (S := fun w' => GmC w' g P now) (by kernel_rfl) ?_
 refine wpH_take (i := 0) (v := (.pointer (some ⟨g, 0, none⟩))) (some 10) rfl rfl (by kernel_rfl) (by kernel_rfl) (by kernel_rfl) (fun _ _ _ h => h) (Or.inl ⟨by rfl, fun w' hS => (by go_simp)⟩) s0 ?_
 try simp only [Go.Act.put, Zx, Zy, Zz]
 refine wpH_take (i := 1) (v := (.pointer (some ⟨g, 0, none⟩))) (some 11) rfl rfl (by kernel_rfl) (by kernel_rfl) (by kernel_rfl) (fun _ _ _ h => h) (Or.inl ⟨by rfl, fun w' hS => (by go_simp)⟩) s0 ?_
 try simp only [Go.Act.put, Zx, Zy, Zz]
 refine wpH_take (i := 2) (v := (.pointer (some ⟨g, 0, none⟩))) (some 12) rfl rfl (by kernel_rfl) (by kernel_rfl) (by kernel_rfl) (fun _ _ _ h => h) (Or.inl ⟨by rfl, fun w' hS => (by go_simp)⟩) s0 ?_
 try simp only [Go.Act.put, Zx, Zy, Zz]
 refine wpH_take (i := 3) (v := (.pointer (some ⟨g, 2, none⟩))) (some 13) rfl rfl (by kernel_rfl) (by kernel_rfl) (by kernel_rfl) (fun _ _ _ h => h) (Or.inl ⟨by rfl, fun w' hS => (by go_simp)⟩) s0 ?_
 try simp only [Go.Act.put, Zx, Zy, Zz]
 refine wpH_take (i := 4) (v := (.pointer (some ⟨P.b, 0, none⟩))) (some 14) rfl rfl (by kernel_rfl) (by kernel_rfl) (by kernel_rfl) (fun _ _ _ h => h) (Or.inl ⟨by rfl, fun w' hS => (by have z0 := C2 _ hS; go_simp)⟩) s0 ?_
 try simp only [Go.Act.put, Zx, Zy, Zz]
 refine wpH_take (i := 5) (v := (.pointer (some ⟨g, 0, none⟩))) (some 15) rfl rfl (by kernel_rfl) (by kernel_rfl) (by kernel_rfl) (fun _ _ _ h => h) (Or.inl ⟨by rfl, fun w' hS => (by go_simp)⟩) s0 ?_
 try simp only [Go.Act.put, Zx, Zy, Zz]
 refine wpH_take (i := 6) (v := (.pointer (some ⟨g, 0, none⟩))) (some 16) rfl rfl (by kernel_rfl) (by kernel_rfl) (by kernel_rfl) (fun _ _ _ h => h) (Or.inl ⟨by rfl, fun w' hS => (by go_simp)⟩) s0 ?_
 try simp only [Go.Act.put, Zx, Zy, Zz]
 refine wpH_take (i := 7) (v := (.pointer (some ⟨g, 4, none⟩))) (some 17) rfl rfl (by kernel_rfl) (by kernel_rfl) (by kernel_rfl) (fun _ _ _ h => h) (Or.inl ⟨by rfl, fun w' hS => (by go_simp)⟩) s0 ?_
 try simp only [Go.Act.put, Zx, Zy, Zz]
 refine wpH_take (i := 8) (v := (.int .i64 now)) (some 18) rfl rfl (by kernel_rfl) (by kernel_rfl) (by kernel_rfl) (fun _ _ _ h => h) (Or.inl ⟨by rfl, fun w' hS => (by have z0 := C4 _ hS; go_simp)⟩) s0 ?_
 try simp only [Go.Act.put, Zx, Zy, Zz]
 refine wpH_take (i := 9) (v := (.int .i64 r)) (some 19) rfl rfl (by kernel_rfl) (by kernel_rfl) (by kernel_rfl) (fun _ _ _ h => h) (Or.inl ⟨by rfl, fun w' hS => (by go_simp)⟩) s0 ?_
 try simp only [Go.Act.put, Zx, Zy, Zz]
 refine wpH_call (i := 10) (o := { dst := some 20, op := Op.call { callee := Callee.value (Operand.func 137), args := #[Operand.tmp 14, Operand.tmp 18, Operand.tmp 19], argTypes := #[104, 2, 3] }, type := 82, pos := _, after := #[{ on := 4, ground := Ground.data }, { on := 8, ground := Ground.data }, { on := 9, ground := Ground.data }], guard := none }) (by kernel_rfl) rfl (fun K' hK => ?_)
 rw [if_pos (by rfl)]
 go_simp
 refine HA.out.mono ?_
 rintro e w2 ⟨a, n, c, E, rfl, r2, q2⟩
 have hbx := HB.out _ q2
 have R2 := hid r2
 have Q2 := hid q2
 have S2 := HC.out _ q2
 clear r2 q2
 refine hK.out _ _ S2 ?_
 clear hK
 try simp only [Go.Act.put, Zx, Zy, Zz]
 refine wpH_take (i := 11) (v := (.tuple #[(.slice a n c), (.int .i64 E)])) (some 9) rfl rfl (by kernel_rfl) (by kernel_rfl) (by kernel_rfl) (fun _ _ _ h => h) (Or.inl ⟨by rfl, fun w' hS => (by go_simp)⟩) S2 ?_
 try simp only [Go.Act.put, Zx, Zy, Zz]
 refine wpH_take (i := 12) (v := (.slice a n c)) (some 21) rfl rfl (by kernel_rfl) (by kernel_rfl) (by kernel_rfl) (fun _ _ _ h => h) (Or.inl ⟨by rfl, fun w' hS => (by go_simp)⟩) S2 ?_
 try simp only [Go.Act.put, Zx, Zy, Zz]
 refine wpH_take (i := 13) (v := (.int .i64 E)) (some 22) rfl rfl (by kernel_rfl) (by kernel_rfl) (by kernel_rfl) (fun _ _ _ h => h) (Or.inl ⟨by rfl, fun w' hS => (by go_simp)⟩) S2 ?_
 try simp only [Go.Act.put, Zx, Zy, Zz]
 refine wpH_take (i := 14) (v := (.slice a n c)) (some 7) rfl rfl (by kernel_rfl) (by kernel_rfl) (by kernel_rfl) (fun _ _ _ h => h) (Or.inl ⟨by rfl, fun w' hS => (by go_simp)⟩) S2 ?_
 try simp only [Go.Act.put, Zx, Zy, Zz]
 refine wpH_take (i := 15) (v := (.int .i64 E)) (some 8) rfl rfl (by kernel_rfl) (by kernel_rfl) (by kernel_rfl) (fun _ _ _ h => h) (Or.inl ⟨by rfl, fun w' hS => (by go_simp)⟩) S2 ?_
 try simp only [Go.Act.put, Zx, Zy, Zz]
 refine wpAnyH_done (by kernel_rfl) ?_ _
 have d0 := cell_at (j := 0) hbx rfl
 have d1 := cell_at (j := 1) hbx rfl
 have d2 := cell_at (j := 2) hbx rfl
 have d3 := cell_at (j := 3) hbx rfl
 have d4 := cell_at (j := 4) hbx rfl
 have d5 := cell_at (j := 5) hbx rfl
 have d6 := cell_at (j := 6) hbx rfl
 have d7 := cell_at (j := 7) hbx rfl
 have df := froz_at hbx
 clear hbx S2
 go_wp2
 refine bodyPost_ret (v := .agg #[.int .i64 hh, .int .i64 r, .bool true, .int .i64 0, .int .i64 0, .int .i64 0, .int .i64 0, .slice a n c]) (by simp [results, Tryz.results95, go_sem, d0, d1, d2, d3, d4, d5, d6, d7]) rfl ⟨.slice a n c, rfl, HF.out _ _ _ Q2.out R2.out ⟨_, _, _, rfl⟩ ?_⟩
 exact (((((((((Touch.refl _ _).setCell (Or.inl (by simp)) _).setCell (Or.inl (by simp)) _).setCell (Or.inl (by simp)) _).setCell (Or.inl (by simp)) _).setCell (Or.inl (by simp)) _).setCell (Or.inl (by simp)) _).setCell (Or.inl (by simp)) _).setCell (Or.inl (by simp)) _)
set_option maxHeartbeats 4000000 in
theorem may_ (h : Gq w g P F X N) (n : Int) (k : K) (hk : Ok k) {x t : Int} (hx : W64 x) (ht : W64 t) : Calls Tryz.prog 44 #[PT g, .int .i64 n, kv k, .int .i64 x, .int .i64 t] w fun e w' => e = .returned (.int .i64 (mayE X n k x t)) ∧ Touch [] w w' := by
 obtain ⟨V, hV⟩ : ∃ V, V = w.alloc (Ta.bxK k) := ⟨_, rfl⟩
 have tv : Touch [] w V := by rw [hV]; exact (Touch.refl _ _).alloc _
 have hb : V.heap[w.heap.size]? = some (.cells #[.int .u16 k.1, .string k.2] 35 (0, 0)) := by rw [hV]; exact heap_alloc_new w _
 have h1 := h.keep0 tv
 have H0 := hid (check_ h1 n)
 have H1 := hid (Ta.fCheck V k hk)
 obtain ⟨Fs, hs, -, -⟩ := h1.sea
 have H2 : Hid (∀ w2, Touch [] V w2 → Calls Tryz.prog 86 #[PT P.s, .int .i64 t] w2 fun e w' => e = .returned (.bool (decide (t ∈ X.G))) ∧ Touch [] V w') := hid (fun w2 T => (Lv.cancQ (hs.keep0 T) ht).mono (fun e w' hh => ⟨hh.1, T.trans' hh.2⟩))
 have H3 : Hid (∀ w2, Touch [] V w2 → Calls Tryz.prog 87 #[PT P.s, .int .i64 x] w2 fun e w' => (∃ y, e = .returned (.tuple #[Lv.sv y, .bool (Lv.whr X.L x).isSome])) ∧ Touch [] V w') := hid (fun w2 T => (Lv.whereQ (hs.keep0 T) hx).mono (fun e w' hh => ⟨⟨_, hh.1⟩, T.trans' hh.2⟩))
 have HC : Hid (∀ w2, Touch [] V w2 → w2.cell? ⟨g, 3, none⟩ = some (.pointer (some ⟨P.s, 0, none⟩)) ∧ w2.cell? ⟨w.heap.size, 0, none⟩ = some (.int .u16 k.1) ∧ w2.cell? ⟨w.heap.size, 1, none⟩ = some (.string k.2)) := hid (fun w2 T => ⟨(h1.keep0 T).cs.c3, cell_at (T.keep hb (by simp)) rfl, cell_at (T.keep hb (by simp)) rfl⟩)
 obtain ⟨c3, b0, b1⟩ := HC.out V (Touch.refl _ _)
 have TV := hid tv
 have e2 : Ta.tForE k = if 64 < k.2.size then 20 else 0 := by
  unfold Ta.tForE Ta.mayK
  by_cases e : 64 < k.2.size
  ·rw [if_pos e, if_neg (by simp; omega)]
  ·rw [if_neg e, if_pos (by simp; omega)]
 rw [e2] at H1
 clear h h1 hs hb tv e2 hk hx ht
 unfold mayE
 unfold Ta.bxK at hV
 unfold Lv.sv at H3
 generalize tkE X n = E at *
 generalize (Lv.whr X.L x).isSome = B at *
 unfold PT kv at *
 by_cases a0 : E ≠ 0
 ·rw [if_pos a0]
  have a0' : (E != 0) = true := by simp [a0]
  go_enter Tryz.func44, Tryz.ntmps44
  go_upto_region 1 with fail
  rw [← hV]
  clear hV
  go_wp2_with (first
   | (go_at_call 59; refine H0.out.mono ?_; rintro e w2 ⟨rfl, rfl⟩))
  go_ret
  exact ⟨rfl, TV.out⟩
 ·rw [if_neg a0]
  simp only [ne_eq, Decidable.not_not] at a0
  subst a0
  by_cases a1 : 64 < k.2.size
  ·rw [if_pos a1] at H1 ⊢
   go_enter Tryz.func44, Tryz.ntmps44
   go_upto_region 1 with fail
   rw [← hV]
   clear hV
   go_wp2_with (first
    | (go_at_call 59; refine H0.out.mono ?_; rintro e w2 ⟨rfl, rfl⟩)
    | (go_at_call 85; refine H1.out.mono ?_; rintro e w3 ⟨rfl, t3⟩; clear c3 b0 b1; obtain ⟨c3, b0, b1⟩ := HC.out _ t3; have T3 := hid t3; clear t3))
   go_ret
   exact ⟨rfl, TV.out.trans' T3.out⟩
  ·rw [if_neg a1] at H1 ⊢
   by_cases a2 : x < 1
   ·rw [if_pos a2]
    go_enter Tryz.func44, Tryz.ntmps44
    go_upto_region 1 with fail
    rw [← hV]
    clear hV
    go_wp2_with (first
     | (go_at_call 59; refine H0.out.mono ?_; rintro e w2 ⟨rfl, rfl⟩)
     | (go_at_call 85; refine H1.out.mono ?_; rintro e w3 ⟨rfl, t3⟩; clear c3 b0 b1; obtain ⟨c3, b0, b1⟩ := HC.out _ t3; have T3 := hid t3; clear t3))
    go_ret
    exact ⟨rfl, TV.out.trans' T3.out⟩
   ·rw [if_neg a2]
    by_cases a3 : t < 0
    ·rw [if_pos a3]
     go_enter Tryz.func44, Tryz.ntmps44
     go_upto_region 1 with fail
     rw [← hV]
     clear hV
     go_wp2_with (first
      | (go_at_call 59; refine H0.out.mono ?_; rintro e w2 ⟨rfl, rfl⟩)
      | (go_at_call 85; refine H1.out.mono ?_; rintro e w3 ⟨rfl, t3⟩; clear c3 b0 b1; obtain ⟨c3, b0, b1⟩ := HC.out _ t3; have T3 := hid t3; clear t3))
     go_ret
     exact ⟨rfl, TV.out.trans' T3.out⟩
    ·rw [if_neg a3]
     by_cases a4 : t ∈ X.G
     ·rw [if_pos a4]
      rw [decide_eq_true a4] at H2
      go_enter Tryz.func44, Tryz.ntmps44
      go_upto_region 1 with fail
      rw [← hV]
      clear hV
      go_wp2_with (first
       | (go_at_call 59; refine H0.out.mono ?_; rintro e w2 ⟨rfl, rfl⟩)
       | (go_at_call 85; refine H1.out.mono ?_; rintro e w3 ⟨rfl, t3⟩; clear c3 b0 b1; obtain ⟨c3, b0, b1⟩ := HC.out _ t3; have T3 := hid t3; clear t3)
       | (go_at_call 86; refine (H2.out _ T3.out).mono ?_; rintro e w4 ⟨rfl, t4⟩; clear c3 b0 b1; obtain ⟨c3, b0, b1⟩ := HC.out _ t4; have T4 := hid t4; clear t4))
      go_ret
      exact ⟨rfl, TV.out.trans' T4.out⟩
     ·rw [if_neg a4]
      rw [decide_eq_false a4] at H2
      cases B
      ·go_enter Tryz.func44, Tryz.ntmps44
       go_upto_region 1 with fail
       rw [← hV]
       clear hV
       go_wp2_with (first
        | (go_at_call 59; refine H0.out.mono ?_; rintro e w2 ⟨rfl, rfl⟩)
        | (go_at_call 85; refine H1.out.mono ?_; rintro e w3 ⟨rfl, t3⟩; clear c3 b0 b1; obtain ⟨c3, b0, b1⟩ := HC.out _ t3; have T3 := hid t3; clear t3)
        | (go_at_call 86; refine (H2.out _ T3.out).mono ?_; rintro e w4 ⟨rfl, t4⟩; clear c3 b0 b1; obtain ⟨c3, b0, b1⟩ := HC.out _ t4; have T4 := hid t4; clear t4)
        | (go_at_call 87; refine (H3.out _ T4.out).mono ?_; rintro e w5 ⟨⟨y, rfl⟩, t5⟩; have T5 := hid t5; clear t5))
       go_ret
       exact ⟨rfl, (TV.out.trans' T5.out).alloc _⟩
      ·go_enter Tryz.func44, Tryz.ntmps44
       go_upto_region 1 with fail
       rw [← hV]
       clear hV
       go_wp2_with (first
        | (go_at_call 59; refine H0.out.mono ?_; rintro e w2 ⟨rfl, rfl⟩)
        | (go_at_call 85; refine H1.out.mono ?_; rintro e w3 ⟨rfl, t3⟩; clear c3 b0 b1; obtain ⟨c3, b0, b1⟩ := HC.out _ t3; have T3 := hid t3; clear t3)
        | (go_at_call 86; refine (H2.out _ T3.out).mono ?_; rintro e w4 ⟨rfl, t4⟩; clear c3 b0 b1; obtain ⟨c3, b0, b1⟩ := HC.out _ t4; have T4 := hid t4; clear t4)
        | (go_at_call 87; refine (H3.out _ T4.out).mono ?_; rintro e w5 ⟨⟨y, rfl⟩, t5⟩; have T5 := hid t5; clear t5))
       go_ret
       exact ⟨rfl, (TV.out.trans' T5.out).alloc _⟩
end
end Go.Proofs.YtllchnancjgijaaGreat
/- The parts' contracts as steps of the group; no conditions but those that each states. -/
namespace Go.Proofs.YtllchnancjgijaaGreat
open Go.RowKit Go.Maps Go.ChangeMaps
section
variable {w w1 : World} {g : Nat} {P : Pt} {F : List Nat} {X : Gp} {N : Cn}
theorem GqE.then0' {w2 : World} (Q : GqE w w1 g P F X N) (T : Touch [] w1 w2) : GqE w w2 g P F X N ∧ Keeps w1 w2 := ⟨Q.then0 T, T.keeps⟩
theorem cur_at (Q : GqE w w1 g P F X N) (k : K) (hk : Ok k) : Calls Tryz.prog 91 #[PT P.t, kv k] w1 fun e w2 => e = .returned (.tuple #[.int .i64 (((Ta.curOf X.T k).map Ta.Rn.run).getD 0), .bool (Ta.curOf X.T k).isSome]) ∧ GqE w w2 g P F X N ∧ Keeps w1 w2 := by
 obtain ⟨Ft, ⟨p, c, g', nc, ng, Ps, rfl, h, hL⟩, hs⟩ := Q.tab
 exact (Ta.tCurrent h k hk).mono (fun e w2 hh => ⟨hh.1, Q.then0' hh.2⟩)
theorem beg_at (Q : GqE w w1 g P F X N) (hN : N.t ≤ 3000000000000) (k : K) (hk : Ok k) {x : Int} (hx : W64 x) (rf : Bool) : Calls Tryz.prog 94 #[PT P.t, kv k, .int .i64 x, .bool rf] w1 fun e w2 => e = .returned (.tuple #[.int .i64 (Ta.tBegN X.T k x rf), .int .i64 (Ta.tBegE X.T k x rf)]) ∧ GqE w w2 g P F (runX X k x rf) { N with t := N.t + 1 } ∧ Keeps w1 w2 := by
 obtain ⟨Ft, h, hs⟩ := Q.tab
 exact (Ta.beginT w1 P.t Ft X.T N.t h hN k hk x hx rf).mono (fun e w2 hh => ⟨hh.1, hs _ _ _ hh.2⟩)
theorem tjoin_at (Q : GqE w w1 g P F X N) (hN : N.t ≤ 3000000000000) {n x : Int} (hn : W64 n) (hx : W64 x) : Calls Tryz.prog 92 #[PT P.t, .int .i64 n, .int .i64 x] w1 fun e w2 => e = .returned (.int .i64 (Ta.tJoinE X.T n x)) ∧ GqE w w2 g P F { X with T := Ta.tJoin X.T n x } { N with t := N.t + 1 } ∧ Keeps w1 w2 := by
 obtain ⟨Ft, h, hs⟩ := Q.tab
 exact (Ta.joinT w1 P.t Ft X.T N.t h hN n x hn hx).mono (fun e w2 hh => ⟨hh.1, hs _ _ _ hh.2⟩)
theorem sit_at (Q : GqE w w1 g P F X N) {x r t : Int} (hx : Lv.Wf (x, r, t)) (hN : N.s ≤ 4400000000000) : Calls Tryz.prog 93 #[PT g, .int .i64 x, .int .i64 r, .int .i64 t] w1 fun e w2 => e = .returned (.tuple #[]) ∧ GqE w w2 g P F (sitX X x r t) { N with s := N.s + 1 } ∧ Keeps w1 w2 := by
 obtain ⟨F1, q1, q2⟩ := Q.go
 exact (sit_ q1 hx hN).mono (fun e w2 hh => ⟨hh.1, q2 _ _ _ hh.2⟩)
theorem begun_at (Q : GqE w w1 g P F X N) {hh r : Int} (hr : W64 r) (hN : N.b ≤ 6000000000000) : Calls Tryz.prog 95 #[PT g, .int .i64 hh, .int .i64 r] w1 fun e w2 => ∃ v, e = .returned (jv (begJ X hh r) v) ∧ Snt w2 v (begJ X hh r).sent ∧ GqE w w2 g P F (begX X r) { N with b := N.b + 1 } ∧ Keeps w1 w2 := by
 obtain ⟨F1, q1, q2⟩ := Q.go
 refine (begun_ q1 hr hN).mono ?_
 rintro e w2 ⟨v, e1, e2, e3⟩
 exact ⟨v, e1, e2, q2 _ _ _ e3⟩
theorem check_at (Q : GqE w w1 g P F X N) (n : Int) : Calls Tryz.prog 59 #[PT g, .int .i64 n] w1 fun e w2 => e = .returned (.int .i64 (tkE X n)) ∧ w2 = w1 := by
 obtain ⟨F1, q1, q2⟩ := Q.go
 exact check_ q1 n
theorem may_at (Q : GqE w w1 g P F X N) (n : Int) (k : K) (hk : Ok k) {x t : Int} (hx : W64 x) (ht : W64 t) : Calls Tryz.prog 44 #[PT g, .int .i64 n, kv k, .int .i64 x, .int .i64 t] w1 fun e w2 => e = .returned (.int .i64 (mayE X n k x t)) ∧ GqE w w2 g P F X N ∧ Keeps w1 w2 := by
 obtain ⟨F1, q1, q2⟩ := Q.go
 exact (may_ q1 n k hk hx ht).mono (fun e w2 hh => ⟨hh.1, Q.then0' hh.2⟩)
structure Tm1 (X : Gp) : Prop where
 a : X.mn ≤ X.now
 b : 0 ≤ X.now
 c : X.now ≤ 4611686018427387904
theorem Tm1.tick {X : Gp} (h : Tm1 X) : Me.tickE X.mn X.now = 0 := by
 have e : Me.isT X.now = true := Me.isT_yes h.b h.c
 unfold Me.tickE
 rw [e, if_pos rfl, if_neg (by have := h.a; omega)]
theorem Tm1.ask {X : Gp} (h : Tm1 X) {k : K} (hk : k.2.size ≤ 64) : Me.askE X.mn X.now k = 0 := by
 unfold Me.askE
 rw [if_pos h.tick, if_neg (by omega)]
theorem look_at (Q : GqE w w1 g P F X N) (ht : Tm1 X) (k : K) (hk : Ok k) (h64 : k.2.size ≤ 64) : Calls Tryz.prog 88 #[PT P.m, .int .i64 X.now, kv k] w1 fun e w2 => e = .returned (.tuple #[Me.lv (seenOf X k), .int .i64 0]) ∧ GqE w w2 g P F { X with mn := X.now } N ∧ Keeps w1 w2 := by
 obtain ⟨Fm, h, hs⟩ := Q.memo
 refine (Me.lookM w1 P.m Fm X.c X.mn X.now X.en h k hk).mono ?_
 rintro e w2 ⟨rfl, q⟩
 unfold Me.askN at q
 unfold Me.askR
 rw [ht.ask h64] at q ⊢
 rw [if_pos rfl] at q ⊢
 have := hs _ _ _ q
 exact ⟨rfl, this.1, this.2.1⟩
theorem tell_at (Q : GqE w w1 g P F X N) (ht : Tm1 X) (k : K) (hk : Ok k) (h64 : k.2.size ≤ 64) : Calls Tryz.prog 90 #[PT P.m, .int .i64 X.now, kv k] w1 fun e w2 => e = .returned (.tuple #[Me.lv (seenOf X k), .int .i64 0]) ∧ GqE w w2 g P F { X with mn := X.now, en := if Me.isUse (seenOf X k).1 then Me.useX X.en k else X.en } N ∧ Keeps w1 w2 ∧ ∀ v xs, Snt w1 v xs → Snt w2 v xs := by
 obtain ⟨Fm, h, hs⟩ := Q.memo
 refine (Me.tellM w1 P.m Fm X.c X.mn X.now X.en h k hk).mono ?_
 rintro e w2 ⟨rfl, q⟩
 unfold Me.askN Me.tellX Me.askR at q
 unfold Me.askR
 rw [ht.ask h64] at q ⊢
 rw [if_pos rfl, if_pos rfl] at q
 rw [if_pos rfl]
 have := hs _ _ _ q
 exact ⟨rfl, this.1, this.2.1, fun v xs hv => ⟨hv.1.memo h this.2.2, hv.2⟩⟩
end
end Go.Proofs.YtllchnancjgijaaGreat
/- The contracts of renew and meet; no conditions but those that each states. -/
namespace Go.Proofs.YtllchnancjgijaaGreat
open Go.RowKit Go.Maps Go.ChangeMaps
structure Bkj (w w' : World) (k : K) : Prop where
 k : w'.heap[w.heap.size]? = some (.cells #[.int .u16 k.1, .string k.2] 35 (0, 0))
 j : w'.heap[w.heap.size + 1]? = some (.cells jz 45 (0, 0))
theorem Bkj.keep {w w1 w2 : World} {k : K} (h : Bkj w w1 k) (hk : Keeps w1 w2) : Bkj w w2 k := ⟨hk _ _ _ _ (by decide) h.k, hk _ _ _ _ (by decide) h.j⟩
theorem Bkj.new (w V : World) (k : K) (hV : V = (w.alloc (Ta.bxK k)).alloc (.cells jz 45)) : Touch [] w V ∧ Bkj w V k := by
 have h0 : V.heap[w.heap.size]? = some (.cells #[.int .u16 k.1, .string k.2] 35 (0, 0)) := by rw [hV]; exact ((Touch.refl [] _).alloc _).keep (heap_alloc_new w _) (by simp)
 have h1 : V.heap[w.heap.size + 1]? = some (.cells jz 45 (0, 0)) := by
  rw [hV]
  have := heap_alloc_new (w.alloc (Ta.bxK k)) (.cells jz 45)
  rwa [World.size_alloc] at this
 exact ⟨by rw [hV]; exact ((Touch.refl _ _).alloc _).alloc _, h0, h1⟩
structure Kg (w' : World) (g : Nat) (P : Pt) (now : Int) (b : Nat) (k : K) : Prop where
 gm : GmC w' g P now
 k0 : w'.cell? ⟨b, 0, none⟩ = some (.int .u16 k.1)
 k1 : w'.cell? ⟨b, 1, none⟩ = some (.string k.2)
theorem Bkj.kg {w w1 : World} {k : K} {g : Nat} {P : Pt} {F : List Nat} {X : Gp} {N : Cn} (h : Bkj w w1 k) (Q : GqE w w1 g P F X N) : Kg w1 g P X.now w.heap.size k := ⟨Q.cs, cell_at h.k rfl, cell_at h.k rfl⟩
theorem runX_no {X : Gp} {k : K} {x : Int} {rf : Bool} (h : Ta.tBegE X.T k x rf ≠ 0) : runX X k x rf = X := by
 unfold runX Ta.tBeg
 rw [if_neg h]
theorem Snt.nil (w : World) : Snt w (.slice none 0 0) [] := ⟨Rd.nil w, _, _, _, rfl⟩
theorem Snt.put {w w' : World} {v : Value} {xs : List Int} {k : Nat} {cs : Array Value} {t : TypeId} {z : Nat × Nat} (h : Snt w v xs) (hb : w.heap[k]? = some (.cells cs t z)) (ht : t ≠ 3) (T : Touch [k] w w') : Snt w' v xs := ⟨h.1.box hb ht T, h.2⟩
section
variable {w : World} {g : Nat} {P : Pt} {F : List Nat} {X : Gp} {N : Cn}
set_option maxHeartbeats 8000000 in
theorem renew_ (h : Gq w g P F X N) (k : K) (hk : Ok k) (hN : N.t ≤ 2900000000000) (hB : N.b ≤ 6000000000000) : Calls Tryz.prog 131 #[PT g, kv k] w fun e w' => ∃ v, e = .returned (.tuple #[jv (renJ X k) v, .bool (renB X k)]) ∧ Snt w' v (renJ X k).sent ∧ GqE w w' g P F (renX X k) (renC X k N) := by
 obtain ⟨V, hV⟩ : ∃ V, V = (w.alloc (Ta.bxK k)).alloc (.cells jz 45) := ⟨_, rfl⟩
 obtain ⟨tv, hb⟩ := Bkj.new w V k hV
 have Q0 : GqE w V.drew g P F X N := GqE.same h tv.drew
 have B0 : Bkj w V.drew k := hb.keep ((Touch.refl [] V).drew).keeps
 have hbg : W64 (X.T.bg + 1) := by
  have := h.iv.2.1.bg
  exact W64.mk (by omega) (by omega)
 have HC : Hid (Calls Tryz.prog 91 #[PT P.t, kv k] V.drew fun e w2 => e = .returned (.tuple #[.int .i64 (((Ta.curOf X.T k).map Ta.Rn.run).getD 0), .bool (Ta.curOf X.T k).isSome]) ∧ GqE w w2 g P F X N ∧ Bkj w w2 k) := hid ((cur_at Q0 k hk).mono (fun e w2 hh => ⟨hh.1, hh.2.1, B0.keep hh.2.2⟩))
 have HB : Hid (∀ w1, GqE w w1 g P F X N → Bkj w w1 k → Calls Tryz.prog 94 #[PT P.t, kv k, .int .i64 0, .bool true] w1.drew fun e w2 => e = .returned (.tuple #[.int .i64 (Ta.tBegN X.T k 0 true), .int .i64 (Ta.tBegE X.T k 0 true)]) ∧ GqE w w2 g P F (runX X k 0 true) { N with t := N.t + 1 } ∧ Bkj w w2 k) := hid (fun w1 Q B => (beg_at (Q.then0 (Touch.refl _ _).drew) (by omega) k hk (W64.mk (by omega) (by omega)) true).mono (fun e w2 hh => ⟨hh.1, hh.2.1, (B.keep ((Touch.refl [] w1).drew).keeps).keep hh.2.2⟩))
 have HG : Hid (∀ w1, GqE w w1 g P F (runX X k 0 true) { N with t := N.t + 1 } → Bkj w w1 k → Calls Tryz.prog 95 #[PT g, .int .i64 2, .int .i64 (X.T.bg + 1)] w1 fun e w2 => ∃ v, e = .returned (jv (begJ X 2 (X.T.bg + 1)) v) ∧ Snt w2 v (begJ X 2 (X.T.bg + 1)).sent ∧ GqE w w2 g P F (begX (runX X k 0 true) (X.T.bg + 1)) ⟨N.t + 1, N.b + 1, N.s⟩ ∧ Bkj w w2 k) := hid (fun w1 Q B => by
  refine (begun_at Q hbg hB).mono ?_
  rintro e w2 ⟨v, e1, e2, e3, e4⟩
  exact ⟨v, e1, e2, e3, B.keep e4⟩)
 have HF : Hid (∀ w2 w3 v xs Y M, GqE w w2 g P F Y M → Bkj w w2 k → Snt w2 v xs → Touch [w.heap.size + 1] w2 w3 → Snt w3 v xs ∧ GqE w w3 g P F Y M) := hid (fun w2 w3 v xs Y M Q B s T => ⟨s.put B.j (by decide) T, Q.put B.j (by decide) (by omega) T⟩)
 have HN : Hid (∀ w2, Snt w2 (.slice none 0 0) []) := hid (fun w2 => Snt.nil w2)
 have HK : Hid (∀ w2 Y M, GqE w w2 g P F Y M → Y.now = X.now → Bkj w w2 k → Kg w2 g P X.now w.heap.size k ∧ w2.heap[w.heap.size + 1]? = some (.cells jz 45 (0, 0))) := hid (fun w2 Y M Q e B => ⟨by have := B.kg Q; rwa [e] at this, B.j⟩)
 have s0 : Kg V.drew g P X.now w.heap.size k := B0.kg Q0
 have C1 : ∀ w', Kg w' g P X.now w.heap.size k → w'.cell? ⟨g, 1, none⟩ = some (.pointer (some ⟨P.t, 0, none⟩)) := fun _ h => h.gm.c1
 have K0 : ∀ w', Kg w' g P X.now w.heap.size k → w'.cell? ⟨w.heap.size, 0, none⟩ = some (.int .u16 k.1) := fun _ h => h.k0
 have K1 : ∀ w', Kg w' g P X.now w.heap.size k → w'.cell? ⟨w.heap.size, 1, none⟩ = some (.string k.2) := fun _ h => h.k1
 clear h Q0 B0 tv hb hk hN hB hbg
 unfold renJ renB renX renC
 unfold Ta.bxK jz at hV
 unfold jz at HK
 unfold jv jcs at *
 unfold kv PT at *
 cases hc : Ta.curOf X.T k with
 | some R =>
  rw [hc] at HC
  simp only [Option.map_some, Option.getD_some, Option.isSome_some, Bool.true_or] at HC ⊢
  clear HB HG hc
  go_enter Tryz.func131, Tryz.ntmps131
  go_upto_region 1 with fail
  rw [← hV]
  clear hV
  refine wp_region_H (S := fun w' => Kg w' g P X.now w.heap.size k) (by kernel_rfl) ?_
  refine wpH_take (i := 0) (v := (.pointer (some ⟨g, 0, none⟩))) (some 11) rfl rfl (by kernel_rfl) (by kernel_rfl) (by kernel_rfl) (fun _ _ _ h => h) (Or.inl ⟨by rfl, fun w' hS => (by go_simp)⟩) s0 ?_
  try simp only [Go.Act.put, Zx, Zy, Zz]
  refine wpH_take (i := 1) (v := (.pointer (some ⟨g, 0, none⟩))) (some 12) rfl rfl (by kernel_rfl) (by kernel_rfl) (by kernel_rfl) (fun _ _ _ h => h) (Or.inl ⟨by rfl, fun w' hS => (by go_simp)⟩) s0 ?_
  try simp only [Go.Act.put, Zx, Zy, Zz]
  refine wpH_take (i := 2) (v := (.pointer (some ⟨g, 0, none⟩))) (some 13) rfl rfl (by kernel_rfl) (by kernel_rfl) (by kernel_rfl) (fun _ _ _ h => h) (Or.inl ⟨by rfl, fun w' hS => (by go_simp)⟩) s0 ?_
  try simp only [Go.Act.put, Zx, Zy, Zz]
  refine wpH_take (i := 3) (v := (.pointer (some ⟨g, 1, none⟩))) (some 14) rfl rfl (by kernel_rfl) (by kernel_rfl) (by kernel_rfl) (fun _ _ _ h => h) (Or.inl ⟨by rfl, fun w' hS => (by go_simp)⟩) s0 ?_
  try simp only [Go.Act.put, Zx, Zy, Zz]
  refine wpH_take (i := 4) (v := (.pointer (some ⟨P.t, 0, none⟩))) (some 15) rfl rfl (by kernel_rfl) (by kernel_rfl) (by kernel_rfl) (fun _ _ _ h => h) (Or.inl ⟨by rfl, fun w' hS => (by have z0 := C1 _ hS; go_simp)⟩) s0 ?_
  try simp only [Go.Act.put, Zx, Zy, Zz]
  refine wpH_take (i := 5) (v := (.agg #[.int .u16 k.1, .string k.2])) (some 16) rfl rfl (by kernel_rfl) (by kernel_rfl) (by kernel_rfl) (fun _ _ _ h => h) (Or.inl ⟨by rfl, fun w' hS => (by have z0 := K0 _ hS; have z1 := K1 _ hS; go_simp)⟩) s0 ?_
  try simp only [Go.Act.put, Zx, Zy, Zz]
  refine wpH_call (i := 6) (o := { dst := some 17, op := Op.call { callee := Callee.value (Operand.func 91), args := #[Operand.tmp 15, Operand.tmp 16], argTypes := #[103, 35] }, type := 118, pos := _, after := #[{ on := 4, ground := Ground.data }, { on := 5, ground := Ground.data }], guard := none }) (by kernel_rfl) rfl (fun K' hK => ?_)
  rw [if_pos (by rfl)]
  go_simp
  refine HC.out.mono ?_
  rintro e w2 ⟨rfl, q2, b2⟩
  obtain ⟨s2, hbj⟩ := HK.out _ _ _ q2 rfl b2
  have Q2 := hid q2
  have B2 := hid b2
  clear q2 b2
  refine hK.out _ _ s2 ?_
  clear hK
  try simp only [Go.Act.put, Zx, Zy, Zz]
  refine wpH_take (i := 7) (v := (.tuple #[(.int .i64 R.run), (.bool true)])) (some 10) rfl rfl (by kernel_rfl) (by kernel_rfl) (by kernel_rfl) (fun _ _ _ h => h) (Or.inl ⟨by rfl, fun w' hS => (by go_simp)⟩) s2 ?_
  try simp only [Go.Act.put, Zx, Zy, Zz]
  refine wpH_take (i := 8) (v := (.int .i64 R.run)) (some 18) rfl rfl (by kernel_rfl) (by kernel_rfl) (by kernel_rfl) (fun _ _ _ h => h) (Or.inl ⟨by rfl, fun w' hS => (by go_simp)⟩) s2 ?_
  try simp only [Go.Act.put, Zx, Zy, Zz]
  refine wpH_take (i := 9) (v := (.bool true)) (some 19) rfl rfl (by kernel_rfl) (by kernel_rfl) (by kernel_rfl) (fun _ _ _ h => h) (Or.inl ⟨by rfl, fun w' hS => (by go_simp)⟩) s2 ?_
  try simp only [Go.Act.put, Zx, Zy, Zz]
  refine wpH_take (i := 10) (v := (.int .i64 R.run)) (some 6) rfl rfl (by kernel_rfl) (by kernel_rfl) (by kernel_rfl) (fun _ _ _ h => h) (Or.inl ⟨by rfl, fun w' hS => (by go_simp)⟩) s2 ?_
  try simp only [Go.Act.put, Zx, Zy, Zz]
  refine wpH_take (i := 11) (v := (.bool true)) (some 7) rfl rfl (by kernel_rfl) (by kernel_rfl) (by kernel_rfl) (fun _ _ _ h => h) (Or.inl ⟨by rfl, fun w' hS => (by go_simp)⟩) s2 ?_
  try simp only [Go.Act.put, Zx, Zy, Zz]
  refine wpAnyH_done (by kernel_rfl) ?_ _
  clear C1 K0 K1 s0 s2
  have d0 := cell_at (j := 0) hbj rfl
  have d1 := cell_at (j := 1) hbj rfl
  have d2 := cell_at (j := 2) hbj rfl
  have d3 := cell_at (j := 3) hbj rfl
  have d4 := cell_at (j := 4) hbj rfl
  have d5 := cell_at (j := 5) hbj rfl
  have d6 := cell_at (j := 6) hbj rfl
  have d7 := cell_at (j := 7) hbj rfl
  have df := froz_at hbj
  clear hbj
  go_wp2
  exact bodyPost_ret (v := .tuple #[.agg #[.int .i64 2, .int .i64 R.run, .bool false, .int .i64 0, .int .i64 0, .int .i64 0, .int .i64 0, .slice none 0 0], .bool true]) (by simp [results, Tryz.results131, go_sem, d0, d1, d2, d3, d4, d5, d6, d7]) rfl ⟨_, rfl, HF.out _ _ _ _ _ _ Q2.out B2.out (HN.out _) (((((((((Touch.refl _ _).setCell (Or.inl (by simp)) _).setCell (Or.inl (by simp)) _).setCell (Or.inl (by simp)) _).setCell (Or.inl (by simp)) _).setCell (Or.inl (by simp)) _).setCell (Or.inl (by simp)) _).setCell (Or.inl (by simp)) _).setCell (Or.inl (by simp)) _)⟩
 | none =>
  rw [hc] at HC
  simp only [Option.map_none, Option.getD_none, Option.isSome_none, Bool.false_or] at HC ⊢
  clear hc
  by_cases hz : Ta.tBegE X.T k 0 true = 0
  ·rw [if_pos hz, if_pos hz, if_pos hz, decide_eq_true hz]
   have hn : Ta.tBegN X.T k 0 true = X.T.bg + 1 := by unfold Ta.tBegN; rw [if_pos hz]
   rw [hz, hn] at HB
   clear hz hn
   have e1 : (begJ X 2 (X.T.bg + 1)).how = 2 := rfl
   have e2 : (begJ X 2 (X.T.bg + 1)).run = X.T.bg + 1 := rfl
   have e3 : (begJ X 2 (X.T.bg + 1)).bg = true := rfl
   have e4 : (begJ X 2 (X.T.bg + 1)).o = (0, 0, 0, 0) := rfl
   rw [e1, e2, e3, e4] at HG
   rw [e1, e2, e3, e4]
   clear e1 e2 e3 e4
   simp only at HG ⊢
   generalize (begJ X 2 (X.T.bg + 1)).sent = ss at *
   generalize hY : begX (runX X k 0 true) (X.T.bg + 1) = Y at *
   have hY2 : Y.now = X.now := by rw [← hY]; rfl
   have HK2 := hid (fun w2 Q B => (HK.out w2 Y ⟨N.t + 1, N.b + 1, N.s⟩ Q hY2 B).2)
   clear hY hY2
   generalize X.T.bg + 1 = r at *
   go_enter Tryz.func131, Tryz.ntmps131
   go_upto_region 1 with fail
   rw [← hV]
   clear hV
   refine wp_region_H (S := fun w' => Kg w' g P X.now w.heap.size k) (by kernel_rfl) ?_
   refine wpH_take (i := 0) (v := (.pointer (some ⟨g, 0, none⟩))) (some 11) rfl rfl (by kernel_rfl) (by kernel_rfl) (by kernel_rfl) (fun _ _ _ h => h) (Or.inl ⟨by rfl, fun w' hS => (by go_simp)⟩) s0 ?_
   try simp only [Go.Act.put, Zx, Zy, Zz]
   refine wpH_take (i := 1) (v := (.pointer (some ⟨g, 0, none⟩))) (some 12) rfl rfl (by kernel_rfl) (by kernel_rfl) (by kernel_rfl) (fun _ _ _ h => h) (Or.inl ⟨by rfl, fun w' hS => (by go_simp)⟩) s0 ?_
   try simp only [Go.Act.put, Zx, Zy, Zz]
   refine wpH_take (i := 2) (v := (.pointer (some ⟨g, 0, none⟩))) (some 13) rfl rfl (by kernel_rfl) (by kernel_rfl) (by kernel_rfl) (fun _ _ _ h => h) (Or.inl ⟨by rfl, fun w' hS => (by go_simp)⟩) s0 ?_
   try simp only [Go.Act.put, Zx, Zy, Zz]
   refine wpH_take (i := 3) (v := (.pointer (some ⟨g, 1, none⟩))) (some 14) rfl rfl (by kernel_rfl) (by kernel_rfl) (by kernel_rfl) (fun _ _ _ h => h) (Or.inl ⟨by rfl, fun w' hS => (by go_simp)⟩) s0 ?_
   try simp only [Go.Act.put, Zx, Zy, Zz]
   refine wpH_take (i := 4) (v := (.pointer (some ⟨P.t, 0, none⟩))) (some 15) rfl rfl (by kernel_rfl) (by kernel_rfl) (by kernel_rfl) (fun _ _ _ h => h) (Or.inl ⟨by rfl, fun w' hS => (by have z0 := C1 _ hS; go_simp)⟩) s0 ?_
   try simp only [Go.Act.put, Zx, Zy, Zz]
   refine wpH_take (i := 5) (v := (.agg #[.int .u16 k.1, .string k.2])) (some 16) rfl rfl (by kernel_rfl) (by kernel_rfl) (by kernel_rfl) (fun _ _ _ h => h) (Or.inl ⟨by rfl, fun w' hS => (by have z0 := K0 _ hS; have z1 := K1 _ hS; go_simp)⟩) s0 ?_
   try simp only [Go.Act.put, Zx, Zy, Zz]
   refine wpH_call (i := 6) (o := { dst := some 17, op := Op.call { callee := Callee.value (Operand.func 91), args := #[Operand.tmp 15, Operand.tmp 16], argTypes := #[103, 35] }, type := 118, pos := _, after := #[{ on := 4, ground := Ground.data }, { on := 5, ground := Ground.data }], guard := none }) (by kernel_rfl) rfl (fun K' hK => ?_)
   rw [if_pos (by rfl)]
   go_simp
   refine HC.out.mono ?_
   rintro e w2 ⟨rfl, q2, b2⟩
   obtain ⟨s2, hbj⟩ := HK.out _ _ _ q2 rfl b2
   have Q2 := hid q2
   have B2 := hid b2
   clear q2 b2
   refine hK.out _ _ s2 ?_
   clear hK
   try simp only [Go.Act.put, Zx, Zy, Zz]
   refine wpH_take (i := 7) (v := (.tuple #[(.int .i64 0), (.bool false)])) (some 10) rfl rfl (by kernel_rfl) (by kernel_rfl) (by kernel_rfl) (fun _ _ _ h => h) (Or.inl ⟨by rfl, fun w' hS => (by go_simp)⟩) s2 ?_
   try simp only [Go.Act.put, Zx, Zy, Zz]
   refine wpH_take (i := 8) (v := (.int .i64 0)) (some 18) rfl rfl (by kernel_rfl) (by kernel_rfl) (by kernel_rfl) (fun _ _ _ h => h) (Or.inl ⟨by rfl, fun w' hS => (by go_simp)⟩) s2 ?_
   try simp only [Go.Act.put, Zx, Zy, Zz]
   refine wpH_take (i := 9) (v := (.bool false)) (some 19) rfl rfl (by kernel_rfl) (by kernel_rfl) (by kernel_rfl) (fun _ _ _ h => h) (Or.inl ⟨by rfl, fun w' hS => (by go_simp)⟩) s2 ?_
   try simp only [Go.Act.put, Zx, Zy, Zz]
   refine wpH_take (i := 10) (v := (.int .i64 0)) (some 6) rfl rfl (by kernel_rfl) (by kernel_rfl) (by kernel_rfl) (fun _ _ _ h => h) (Or.inl ⟨by rfl, fun w' hS => (by go_simp)⟩) s2 ?_
   try simp only [Go.Act.put, Zx, Zy, Zz]
   refine wpH_take (i := 11) (v := (.bool false)) (some 7) rfl rfl (by kernel_rfl) (by kernel_rfl) (by kernel_rfl) (fun _ _ _ h => h) (Or.inl ⟨by rfl, fun w' hS => (by go_simp)⟩) s2 ?_
   try simp only [Go.Act.put, Zx, Zy, Zz]
   refine wpAnyH_done (by kernel_rfl) ?_ _
   clear hbj
   go_upto_region 4 with fail
   have s2' : Kg w2.drew g P X.now w.heap.size k := ⟨⟨s2.gm.c0, s2.gm.c1, s2.gm.c2, s2.gm.c3, s2.gm.c4, s2.gm.f4⟩, s2.k0, s2.k1⟩
   refine wp_region_H (S := fun w' => Kg w' g P X.now w.heap.size k) (by kernel_rfl) ?_
   refine wpH_take (i := 0) (v := (.pointer (some ⟨g, 0, none⟩))) (some 24) rfl rfl (by kernel_rfl) (by kernel_rfl) (by kernel_rfl) (fun _ _ _ h => h) (Or.inl ⟨by rfl, fun w' hS => (by go_simp)⟩) s2' ?_
   try simp only [Go.Act.put, Zx, Zy, Zz]
   refine wpH_take (i := 1) (v := (.pointer (some ⟨g, 0, none⟩))) (some 25) rfl rfl (by kernel_rfl) (by kernel_rfl) (by kernel_rfl) (fun _ _ _ h => h) (Or.inl ⟨by rfl, fun w' hS => (by go_simp)⟩) s2' ?_
   try simp only [Go.Act.put, Zx, Zy, Zz]
   refine wpH_take (i := 2) (v := (.pointer (some ⟨g, 0, none⟩))) (some 26) rfl rfl (by kernel_rfl) (by kernel_rfl) (by kernel_rfl) (fun _ _ _ h => h) (Or.inl ⟨by rfl, fun w' hS => (by go_simp)⟩) s2' ?_
   try simp only [Go.Act.put, Zx, Zy, Zz]
   refine wpH_take (i := 3) (v := (.pointer (some ⟨g, 1, none⟩))) (some 27) rfl rfl (by kernel_rfl) (by kernel_rfl) (by kernel_rfl) (fun _ _ _ h => h) (Or.inl ⟨by rfl, fun w' hS => (by go_simp)⟩) s2' ?_
   try simp only [Go.Act.put, Zx, Zy, Zz]
   refine wpH_take (i := 4) (v := (.pointer (some ⟨P.t, 0, none⟩))) (some 28) rfl rfl (by kernel_rfl) (by kernel_rfl) (by kernel_rfl) (fun _ _ _ h => h) (Or.inl ⟨by rfl, fun w' hS => (by have z0 := C1 _ hS; go_simp)⟩) s2' ?_
   try simp only [Go.Act.put, Zx, Zy, Zz]
   refine wpH_take (i := 5) (v := (.agg #[.int .u16 k.1, .string k.2])) (some 29) rfl rfl (by kernel_rfl) (by kernel_rfl) (by kernel_rfl) (fun _ _ _ h => h) (Or.inl ⟨by rfl, fun w' hS => (by have z0 := K0 _ hS; have z1 := K1 _ hS; go_simp)⟩) s2' ?_
   try simp only [Go.Act.put, Zx, Zy, Zz]
   refine wpH_call (i := 6) (o := { dst := some 30, op := Op.call { callee := Callee.value (Operand.func 94), args := #[Operand.tmp 28, Operand.tmp 29, Operand.const (Value.int IntKind.i64 0), Operand.const (Value.bool true)], argTypes := #[103, 35, 3, 4] }, type := 168, pos := _, after := #[{ on := 4, ground := Ground.data }, { on := 5, ground := Ground.data }], guard := none }) (by kernel_rfl) rfl (fun K' hK => ?_)
   rw [if_pos (by rfl)]
   go_simp
   refine (HB.out _ Q2.out B2.out).mono ?_
   rintro e w3 ⟨rfl, q3, b3⟩
   obtain ⟨s3, hbj⟩ := HK.out _ _ _ q3 rfl b3
   have Q3 := hid q3
   have B3 := hid b3
   clear q3 b3
   refine hK.out _ _ s3 ?_
   clear hK
   try simp only [Go.Act.put, Zx, Zy, Zz]
   refine wpH_take (i := 7) (v := (.tuple #[(.int .i64 r), (.int .i64 0)])) (some 23) rfl rfl (by kernel_rfl) (by kernel_rfl) (by kernel_rfl) (fun _ _ _ h => h) (Or.inl ⟨by rfl, fun w' hS => (by go_simp)⟩) s3 ?_
   try simp only [Go.Act.put, Zx, Zy, Zz]
   refine wpH_take (i := 8) (v := (.int .i64 r)) (some 31) rfl rfl (by kernel_rfl) (by kernel_rfl) (by kernel_rfl) (fun _ _ _ h => h) (Or.inl ⟨by rfl, fun w' hS => (by go_simp)⟩) s3 ?_
   try simp only [Go.Act.put, Zx, Zy, Zz]
   refine wpH_take (i := 9) (v := (.int .i64 0)) (some 32) rfl rfl (by kernel_rfl) (by kernel_rfl) (by kernel_rfl) (fun _ _ _ h => h) (Or.inl ⟨by rfl, fun w' hS => (by go_simp)⟩) s3 ?_
   try simp only [Go.Act.put, Zx, Zy, Zz]
   refine wpH_take (i := 10) (v := (.int .i64 r)) (some 8) rfl rfl (by kernel_rfl) (by kernel_rfl) (by kernel_rfl) (fun _ _ _ h => h) (Or.inl ⟨by rfl, fun w' hS => (by go_simp)⟩) s3 ?_
   try simp only [Go.Act.put, Zx, Zy, Zz]
   refine wpH_take (i := 11) (v := (.int .i64 0)) (some 9) rfl rfl (by kernel_rfl) (by kernel_rfl) (by kernel_rfl) (fun _ _ _ h => h) (Or.inl ⟨by rfl, fun w' hS => (by go_simp)⟩) s3 ?_
   try simp only [Go.Act.put, Zx, Zy, Zz]
   refine wpAnyH_done (by kernel_rfl) ?_ _
   clear C1 K0 K1 s0 s2 s2' s3 hbj
   go_wp2_with (go_at_call 95; refine (HG.out _ Q3.out B3.out).mono ?_; rintro e w4 ⟨v, rfl, n4, q4, b4⟩; have hbj := HK2.out _ q4 b4; have N4 := hid n4; have Q4 := hid q4; have B4 := hid b4; obtain ⟨va, vn, vc, rfl⟩ := n4.2; clear n4 q4 b4; have d0 := cell_at (j := 0) hbj rfl; have d1 := cell_at (j := 1) hbj rfl; have d2 := cell_at (j := 2) hbj rfl; have d3 := cell_at (j := 3) hbj rfl; have d4 := cell_at (j := 4) hbj rfl; have d5 := cell_at (j := 5) hbj rfl; have d6 := cell_at (j := 6) hbj rfl; have d7 := cell_at (j := 7) hbj rfl; have df := froz_at hbj; clear hbj)
   exact bodyPost_ret (v := .tuple #[.agg #[.int .i64 2, .int .i64 r, .bool true, .int .i64 0, .int .i64 0, .int .i64 0, .int .i64 0, .slice va vn vc], .bool true]) (by simp [results, Tryz.results131, go_sem, d0, d1, d2, d3, d4, d5, d6, d7]) rfl ⟨_, rfl, HF.out _ _ _ _ _ _ Q4.out B4.out N4.out (((((((((Touch.refl _ _).setCell (Or.inl (by simp)) _).setCell (Or.inl (by simp)) _).setCell (Or.inl (by simp)) _).setCell (Or.inl (by simp)) _).setCell (Or.inl (by simp)) _).setCell (Or.inl (by simp)) _).setCell (Or.inl (by simp)) _).setCell (Or.inl (by simp)) _)⟩
  ·rw [if_neg hz, if_neg hz, if_neg hz, decide_eq_false hz]
   rw [runX_no hz] at HB
   have hz' : (Ta.tBegE X.T k 0 true != 0) = true := by simp [hz]
   have e1 : Jd.z.how = 0 := rfl
   have e2 : Jd.z.run = 0 := rfl
   have e3 : Jd.z.bg = false := rfl
   have e4 : Jd.z.o = (0, 0, 0, 0) := rfl
   have e5 : Jd.z.sent = [] := rfl
   rw [e1, e2, e3, e4, e5]
   clear e1 e2 e3 e4 e5 HG hz
   generalize Ta.tBegE X.T k 0 true = E at *
   generalize Ta.tBegN X.T k 0 true = r at *
   go_enter Tryz.func131, Tryz.ntmps131
   go_upto_region 1 with fail
   rw [← hV]
   clear hV
   refine wp_region_H (S := fun w' => Kg w' g P X.now w.heap.size k) (by kernel_rfl) ?_
   refine wpH_take (i := 0) (v := (.pointer (some ⟨g, 0, none⟩))) (some 11) rfl rfl (by kernel_rfl) (by kernel_rfl) (by kernel_rfl) (fun _ _ _ h => h) (Or.inl ⟨by rfl, fun w' hS => (by go_simp)⟩) s0 ?_
   try simp only [Go.Act.put, Zx, Zy, Zz]
   refine wpH_take (i := 1) (v := (.pointer (some ⟨g, 0, none⟩))) (some 12) rfl rfl (by kernel_rfl) (by kernel_rfl) (by kernel_rfl) (fun _ _ _ h => h) (Or.inl ⟨by rfl, fun w' hS => (by go_simp)⟩) s0 ?_
   try simp only [Go.Act.put, Zx, Zy, Zz]
   refine wpH_take (i := 2) (v := (.pointer (some ⟨g, 0, none⟩))) (some 13) rfl rfl (by kernel_rfl) (by kernel_rfl) (by kernel_rfl) (fun _ _ _ h => h) (Or.inl ⟨by rfl, fun w' hS => (by go_simp)⟩) s0 ?_
   try simp only [Go.Act.put, Zx, Zy, Zz]
   refine wpH_take (i := 3) (v := (.pointer (some ⟨g, 1, none⟩))) (some 14) rfl rfl (by kernel_rfl) (by kernel_rfl) (by kernel_rfl) (fun _ _ _ h => h) (Or.inl ⟨by rfl, fun w' hS => (by go_simp)⟩) s0 ?_
   try simp only [Go.Act.put, Zx, Zy, Zz]
   refine wpH_take (i := 4) (v := (.pointer (some ⟨P.t, 0, none⟩))) (some 15) rfl rfl (by kernel_rfl) (by kernel_rfl) (by kernel_rfl) (fun _ _ _ h => h) (Or.inl ⟨by rfl, fun w' hS => (by have z0 := C1 _ hS; go_simp)⟩) s0 ?_
   try simp only [Go.Act.put, Zx, Zy, Zz]
   refine wpH_take (i := 5) (v := (.agg #[.int .u16 k.1, .string k.2])) (some 16) rfl rfl (by kernel_rfl) (by kernel_rfl) (by kernel_rfl) (fun _ _ _ h => h) (Or.inl ⟨by rfl, fun w' hS => (by have z0 := K0 _ hS; have z1 := K1 _ hS; go_simp)⟩) s0 ?_
   try simp only [Go.Act.put, Zx, Zy, Zz]
   refine wpH_call (i := 6) (o := { dst := some 17, op := Op.call { callee := Callee.value (Operand.func 91), args := #[Operand.tmp 15, Operand.tmp 16], argTypes := #[103, 35] }, type := 118, pos := _, after := #[{ on := 4, ground := Ground.data }, { on := 5, ground := Ground.data }], guard := none }) (by kernel_rfl) rfl (fun K' hK => ?_)
   rw [if_pos (by rfl)]
   go_simp
   refine HC.out.mono ?_
   rintro e w2 ⟨rfl, q2, b2⟩
   obtain ⟨s2, hbj⟩ := HK.out _ _ _ q2 rfl b2
   have Q2 := hid q2
   have B2 := hid b2
   clear q2 b2
   refine hK.out _ _ s2 ?_
   clear hK
   try simp only [Go.Act.put, Zx, Zy, Zz]
   refine wpH_take (i := 7) (v := (.tuple #[(.int .i64 0), (.bool false)])) (some 10) rfl rfl (by kernel_rfl) (by kernel_rfl) (by kernel_rfl) (fun _ _ _ h => h) (Or.inl ⟨by rfl, fun w' hS => (by go_simp)⟩) s2 ?_
   try simp only [Go.Act.put, Zx, Zy, Zz]
   refine wpH_take (i := 8) (v := (.int .i64 0)) (some 18) rfl rfl (by kernel_rfl) (by kernel_rfl) (by kernel_rfl) (fun _ _ _ h => h) (Or.inl ⟨by rfl, fun w' hS => (by go_simp)⟩) s2 ?_
   try simp only [Go.Act.put, Zx, Zy, Zz]
   refine wpH_take (i := 9) (v := (.bool false)) (some 19) rfl rfl (by kernel_rfl) (by kernel_rfl) (by kernel_rfl) (fun _ _ _ h => h) (Or.inl ⟨by rfl, fun w' hS => (by go_simp)⟩) s2 ?_
   try simp only [Go.Act.put, Zx, Zy, Zz]
   refine wpH_take (i := 10) (v := (.int .i64 0)) (some 6) rfl rfl (by kernel_rfl) (by kernel_rfl) (by kernel_rfl) (fun _ _ _ h => h) (Or.inl ⟨by rfl, fun w' hS => (by go_simp)⟩) s2 ?_
   try simp only [Go.Act.put, Zx, Zy, Zz]
   refine wpH_take (i := 11) (v := (.bool false)) (some 7) rfl rfl (by kernel_rfl) (by kernel_rfl) (by kernel_rfl) (fun _ _ _ h => h) (Or.inl ⟨by rfl, fun w' hS => (by go_simp)⟩) s2 ?_
   try simp only [Go.Act.put, Zx, Zy, Zz]
   refine wpAnyH_done (by kernel_rfl) ?_ _
   clear hbj
   go_upto_region 4 with fail
   have s2' : Kg w2.drew g P X.now w.heap.size k := ⟨⟨s2.gm.c0, s2.gm.c1, s2.gm.c2, s2.gm.c3, s2.gm.c4, s2.gm.f4⟩, s2.k0, s2.k1⟩
   refine wp_region_H (S := fun w' => Kg w' g P X.now w.heap.size k) (by kernel_rfl) ?_
   refine wpH_take (i := 0) (v := (.pointer (some ⟨g, 0, none⟩))) (some 24) rfl rfl (by kernel_rfl) (by kernel_rfl) (by kernel_rfl) (fun _ _ _ h => h) (Or.inl ⟨by rfl, fun w' hS => (by go_simp)⟩) s2' ?_
   try simp only [Go.Act.put, Zx, Zy, Zz]
   refine wpH_take (i := 1) (v := (.pointer (some ⟨g, 0, none⟩))) (some 25) rfl rfl (by kernel_rfl) (by kernel_rfl) (by kernel_rfl) (fun _ _ _ h => h) (Or.inl ⟨by rfl, fun w' hS => (by go_simp)⟩) s2' ?_
   try simp only [Go.Act.put, Zx, Zy, Zz]
   refine wpH_take (i := 2) (v := (.pointer (some ⟨g, 0, none⟩))) (some 26) rfl rfl (by kernel_rfl) (by kernel_rfl) (by kernel_rfl) (fun _ _ _ h => h) (Or.inl ⟨by rfl, fun w' hS => (by go_simp)⟩) s2' ?_
   try simp only [Go.Act.put, Zx, Zy, Zz]
   refine wpH_take (i := 3) (v := (.pointer (some ⟨g, 1, none⟩))) (some 27) rfl rfl (by kernel_rfl) (by kernel_rfl) (by kernel_rfl) (fun _ _ _ h => h) (Or.inl ⟨by rfl, fun w' hS => (by go_simp)⟩) s2' ?_
   try simp only [Go.Act.put, Zx, Zy, Zz]
   refine wpH_take (i := 4) (v := (.pointer (some ⟨P.t, 0, none⟩))) (some 28) rfl rfl (by kernel_rfl) (by kernel_rfl) (by kernel_rfl) (fun _ _ _ h => h) (Or.inl ⟨by rfl, fun w' hS => (by have z0 := C1 _ hS; go_simp)⟩) s2' ?_
   try simp only [Go.Act.put, Zx, Zy, Zz]
   refine wpH_take (i := 5) (v := (.agg #[.int .u16 k.1, .string k.2])) (some 29) rfl rfl (by kernel_rfl) (by kernel_rfl) (by kernel_rfl) (fun _ _ _ h => h) (Or.inl ⟨by rfl, fun w' hS => (by have z0 := K0 _ hS; have z1 := K1 _ hS; go_simp)⟩) s2' ?_
   try simp only [Go.Act.put, Zx, Zy, Zz]
   refine wpH_call (i := 6) (o := { dst := some 30, op := Op.call { callee := Callee.value (Operand.func 94), args := #[Operand.tmp 28, Operand.tmp 29, Operand.const (Value.int IntKind.i64 0), Operand.const (Value.bool true)], argTypes := #[103, 35, 3, 4] }, type := 168, pos := _, after := #[{ on := 4, ground := Ground.data }, { on := 5, ground := Ground.data }], guard := none }) (by kernel_rfl) rfl (fun K' hK => ?_)
   rw [if_pos (by rfl)]
   go_simp
   refine (HB.out _ Q2.out B2.out).mono ?_
   rintro e w3 ⟨rfl, q3, b3⟩
   obtain ⟨s3, hbj⟩ := HK.out _ _ _ q3 rfl b3
   have Q3 := hid q3
   have B3 := hid b3
   clear q3 b3
   refine hK.out _ _ s3 ?_
   clear hK
   try simp only [Go.Act.put, Zx, Zy, Zz]
   refine wpH_take (i := 7) (v := (.tuple #[(.int .i64 r), (.int .i64 E)])) (some 23) rfl rfl (by kernel_rfl) (by kernel_rfl) (by kernel_rfl) (fun _ _ _ h => h) (Or.inl ⟨by rfl, fun w' hS => (by go_simp)⟩) s3 ?_
   try simp only [Go.Act.put, Zx, Zy, Zz]
   refine wpH_take (i := 8) (v := (.int .i64 r)) (some 31) rfl rfl (by kernel_rfl) (by kernel_rfl) (by kernel_rfl) (fun _ _ _ h => h) (Or.inl ⟨by rfl, fun w' hS => (by go_simp)⟩) s3 ?_
   try simp only [Go.Act.put, Zx, Zy, Zz]
   refine wpH_take (i := 9) (v := (.int .i64 E)) (some 32) rfl rfl (by kernel_rfl) (by kernel_rfl) (by kernel_rfl) (fun _ _ _ h => h) (Or.inl ⟨by rfl, fun w' hS => (by go_simp)⟩) s3 ?_
   try simp only [Go.Act.put, Zx, Zy, Zz]
   refine wpH_take (i := 10) (v := (.int .i64 r)) (some 8) rfl rfl (by kernel_rfl) (by kernel_rfl) (by kernel_rfl) (fun _ _ _ h => h) (Or.inl ⟨by rfl, fun w' hS => (by go_simp)⟩) s3 ?_
   try simp only [Go.Act.put, Zx, Zy, Zz]
   refine wpH_take (i := 11) (v := (.int .i64 E)) (some 9) rfl rfl (by kernel_rfl) (by kernel_rfl) (by kernel_rfl) (fun _ _ _ h => h) (Or.inl ⟨by rfl, fun w' hS => (by go_simp)⟩) s3 ?_
   try simp only [Go.Act.put, Zx, Zy, Zz]
   refine wpAnyH_done (by kernel_rfl) ?_ _
   clear C1 K0 K1 s0 s2 s2' s3
   have d0 := cell_at (j := 0) hbj rfl
   have d1 := cell_at (j := 1) hbj rfl
   have d2 := cell_at (j := 2) hbj rfl
   have d3 := cell_at (j := 3) hbj rfl
   have d4 := cell_at (j := 4) hbj rfl
   have d5 := cell_at (j := 5) hbj rfl
   have d6 := cell_at (j := 6) hbj rfl
   have d7 := cell_at (j := 7) hbj rfl
   have df := froz_at hbj
   clear hbj
   go_wp2
   exact bodyPost_ret (v := .tuple #[.agg #[.int .i64 0, .int .i64 0, .bool false, .int .i64 0, .int .i64 0, .int .i64 0, .int .i64 0, .slice none 0 0], .bool false]) (by simp [results, Tryz.results131, go_sem, d0, d1, d2, d3, d4, d5, d6, d7]) rfl ⟨_, rfl, HF.out _ _ _ _ _ _ Q3.out B3.out (HN.out _) (((((((((Touch.refl _ _).setCell (Or.inl (by simp)) _).setCell (Or.inl (by simp)) _).setCell (Or.inl (by simp)) _).setCell (Or.inl (by simp)) _).setCell (Or.inl (by simp)) _).setCell (Or.inl (by simp)) _).setCell (Or.inl (by simp)) _).setCell (Or.inl (by simp)) _)⟩
set_option maxHeartbeats 8000000 in
theorem meet_ (h : Gq w g P F X N) (k : K) (hk : Ok k) (hN : N.t ≤ 2900000000000) (hB : N.b ≤ 6000000000000) (m : Int) : Calls Tryz.prog 89 #[PT g, kv k, .int .i64 m] w fun e w' => ∃ v, e = .returned (.tuple #[jv (meeJ X k m) v, .bool (meeB X k m)]) ∧ Snt w' v (meeJ X k m).sent ∧ GqE w w' g P F (meeX X k m) (meeC X k m N) := by
 obtain ⟨V, hV⟩ : ∃ V, V = (w.alloc (Ta.bxK k)).alloc (.cells jz 45) := ⟨_, rfl⟩
 obtain ⟨tv, hb⟩ := Bkj.new w V k hV
 have Q0 : GqE w V g P F X N := GqE.same h tv
 have HR : Hid (Calls Tryz.prog 131 #[PT g, kv k] V fun e w2 => ∃ a n c, e = .returned (.tuple #[jv (renJ X k) (.slice a n c), .bool (renB X k)]) ∧ Snt w2 (.slice a n c) (renJ X k).sent ∧ GqE w w2 g P F (renX X k) (renC X k N) ∧ Bkj w w2 k) := hid (by
  obtain ⟨F1, q1, q2⟩ := Q0.go
  refine (renew_ q1 k hk hN hB).mono ?_
  rintro e w2 ⟨v, rfl, n2, r2⟩
  obtain ⟨a, n, c, rfl⟩ := n2.2
  exact ⟨a, n, c, rfl, n2, (q2 _ _ _ r2).1, hb.keep (q2 _ _ _ r2).2⟩)
 have HF : Hid (∀ w2 w3 v xs Y M, GqE w w2 g P F Y M → Bkj w w2 k → Snt w2 v xs → Touch [w.heap.size + 1] w2 w3 → Snt w3 v xs ∧ GqE w w3 g P F Y M) := hid (fun w2 w3 v xs Y M Q B s T => ⟨s.put B.j (by decide) T, Q.put B.j (by decide) (by omega) T⟩)
 have HN : Hid (∀ w2, Snt w2 (.slice none 0 0) []) := hid (fun w2 => Snt.nil w2)
 have HJ : Hid (∀ w2, Bkj w w2 k → w2.heap[w.heap.size + 1]? = some (.cells jz 45 (0, 0))) := hid (fun w2 B => B.j)
 have b0 : V.cell? ⟨w.heap.size, 0, none⟩ = some (.int .u16 k.1) := cell_at hb.k rfl
 have b1 : V.cell? ⟨w.heap.size, 1, none⟩ = some (.string k.2) := cell_at hb.k rfl
 have hbj := hb.j
 have HQ := hid Q0
 have HB := hid hb
 clear h Q0 tv hb hk hN hB
 unfold meeJ meeB meeX meeC
 unfold Ta.bxK jz at hV
 unfold jz at HJ hbj
 unfold jv jcs at *
 unfold kv PT at *
 by_cases h1 : m = 1
 ·subst h1
  simp only [if_true, show ¬ ((1 : Int) = 2) by decide, if_false]
  clear HR
  have d0 := cell_at (j := 0) hbj rfl
  have d1 := cell_at (j := 1) hbj rfl
  have d2 := cell_at (j := 2) hbj rfl
  have d3 := cell_at (j := 3) hbj rfl
  have d4 := cell_at (j := 4) hbj rfl
  have d5 := cell_at (j := 5) hbj rfl
  have d6 := cell_at (j := 6) hbj rfl
  have d7 := cell_at (j := 7) hbj rfl
  have df := froz_at hbj
  clear hbj
  go_enter Tryz.func89, Tryz.ntmps89
  go_upto_region 1 with fail
  rw [← hV]
  clear hV
  go_wp2
  exact bodyPost_ret (v := .tuple #[.agg #[.int .i64 1, .int .i64 0, .bool false, .int .i64 0, .int .i64 0, .int .i64 0, .int .i64 0, .slice none 0 0], .bool true]) (by simp [results, Tryz.results89, go_sem, d0, d1, d2, d3, d4, d5, d6, d7]) rfl ⟨_, rfl, HF.out _ _ _ _ _ _ HQ.out HB.out (HN.out _) (((((((((Touch.refl _ _).setCell (Or.inl (by simp)) _).setCell (Or.inl (by simp)) _).setCell (Or.inl (by simp)) _).setCell (Or.inl (by simp)) _).setCell (Or.inl (by simp)) _).setCell (Or.inl (by simp)) _).setCell (Or.inl (by simp)) _).setCell (Or.inl (by simp)) _)⟩
 ·rw [if_neg h1, if_neg h1]
  by_cases h2 : m = 2
  ·subst h2
   rw [if_pos rfl, if_pos rfl, if_pos rfl, if_pos rfl]
   clear hbj h1
   generalize renJ X k = J at *
   generalize renB X k = B at *
   generalize renX X k = Y at *
   generalize renC X k N = M at *
   go_enter Tryz.func89, Tryz.ntmps89
   go_upto_region 1 with fail
   rw [← hV]
   clear hV
   go_wp2_with (go_at_call 131; refine HR.out.mono ?_; rintro e w2 ⟨a, n, c, rfl, n2, q2, b2⟩; have hbj := HJ.out _ b2; have N2 := hid n2; have Q2 := hid q2; have B2 := hid b2; clear n2 q2 b2; have d0 := cell_at (j := 0) hbj rfl; have d1 := cell_at (j := 1) hbj rfl; have d2 := cell_at (j := 2) hbj rfl; have d3 := cell_at (j := 3) hbj rfl; have d4 := cell_at (j := 4) hbj rfl; have d5 := cell_at (j := 5) hbj rfl; have d6 := cell_at (j := 6) hbj rfl; have d7 := cell_at (j := 7) hbj rfl; have df := froz_at hbj; clear hbj)
   exact bodyPost_ret (v := .tuple #[.agg #[.int .i64 J.how, .int .i64 J.run, .bool J.bg, .int .i64 J.o.1, .int .i64 J.o.2.1, .int .i64 J.o.2.2.1, .int .i64 J.o.2.2.2, .slice a n c], .bool B]) (by simp [results, Tryz.results89, go_sem, d0, d1, d2, d3, d4, d5, d6, d7]) rfl ⟨_, rfl, HF.out _ _ _ _ _ _ Q2.out B2.out N2.out (((((((((Touch.refl _ _).setCell (Or.inl (by simp)) _).setCell (Or.inl (by simp)) _).setCell (Or.inl (by simp)) _).setCell (Or.inl (by simp)) _).setCell (Or.inl (by simp)) _).setCell (Or.inl (by simp)) _).setCell (Or.inl (by simp)) _).setCell (Or.inl (by simp)) _)⟩
  ·rw [if_neg h2, if_neg h2, if_neg h2, if_neg h2]
   have g1 : (m == 1) = false := by simp [h1]
   have g2 : (m == 2) = false := by simp [h2]
   clear HR h1 h2
   have e1 : Jd.z.how = 0 := rfl
   have e2 : Jd.z.run = 0 := rfl
   have e3 : Jd.z.bg = false := rfl
   have e4 : Jd.z.o = (0, 0, 0, 0) := rfl
   have e5 : Jd.z.sent = [] := rfl
   rw [e1, e2, e3, e4, e5]
   clear e1 e2 e3 e4 e5
   have d0 := cell_at (j := 0) hbj rfl
   have d1 := cell_at (j := 1) hbj rfl
   have d2 := cell_at (j := 2) hbj rfl
   have d3 := cell_at (j := 3) hbj rfl
   have d4 := cell_at (j := 4) hbj rfl
   have d5 := cell_at (j := 5) hbj rfl
   have d6 := cell_at (j := 6) hbj rfl
   have d7 := cell_at (j := 7) hbj rfl
   have df := froz_at hbj
   clear hbj
   go_enter Tryz.func89, Tryz.ntmps89
   go_upto_region 1 with fail
   rw [← hV]
   clear hV
   go_wp2
   exact bodyPost_ret (v := .tuple #[.agg #[.int .i64 0, .int .i64 0, .bool false, .int .i64 0, .int .i64 0, .int .i64 0, .int .i64 0, .slice none 0 0], .bool false]) (by simp [results, Tryz.results89, go_sem, d0, d1, d2, d3, d4, d5, d6, d7]) rfl ⟨_, rfl, HF.out _ _ _ _ _ _ HQ.out HB.out (HN.out _) (((((((((Touch.refl _ _).setCell (Or.inl (by simp)) _).setCell (Or.inl (by simp)) _).setCell (Or.inl (by simp)) _).setCell (Or.inl (by simp)) _).setCell (Or.inl (by simp)) _).setCell (Or.inl (by simp)) _).setCell (Or.inl (by simp)) _).setCell (Or.inl (by simp)) _)⟩
end
end Go.Proofs.YtllchnancjgijaaGreat
