/- The contracts of Place and of mayJoin; no conditions but those that each states. -/
import Derived.Test.YtllchnancjgijaaGreatQa13
set_option linter.unusedVariables false
set_option linter.unusedSimpArgs false
set_option maxRecDepth 100000
namespace Go.Proofs.YtllchnancjgijaaGreat
open Go.RowKit Go.Maps Go.ChangeMaps
section
variable {w : World} {s n : Nat} {a : Option Addr} {c : Nat}
structure Bk1 (w w' : World) (k : K) : Prop where
 k : w'.heap[w.heap.size]? = some (.cells #[.int .u16 k.1, .string k.2] 35 (0, 0))
theorem cell_touch {w w' : World} {s j : Nat} {v : Value} (h : w.cell? ⟨s, j, none⟩ = some v) (T : Touch [] w w') : w'.cell? ⟨s, j, none⟩ = some v := by
 have hlt : s < w.heap.size := by
  unfold World.cell? at h
  cases hb : w.heap[s]? with
  | none => rw [hb] at h; cases h
  | some o => exact block_lt hb
 rw [← h]
 unfold World.cell?
 rw [T.block s hlt (by simp)]
set_option maxHeartbeats 4000000 in
theorem place_ (h : w.cell? ⟨s, 0, none⟩ = some (.slice a n c)) (hn : 1 ≤ n) (h64 : n ≤ 64) (k : K) (hk : Ok k) : Calls Tryz.prog 9 #[PT s, kv k] w fun e w' => e = .returned (.int .i64 (Ky.plc k n : Nat)) ∧ Touch [] w w' := by
 obtain ⟨V, hV⟩ : ∃ V, V = w.alloc (.cells #[.int .u16 k.1, .string k.2] 35) := ⟨_, rfl⟩
 have tv : Touch [] w V := by rw [hV]; exact (Touch.refl _ _).alloc _
 have hb : V.heap[w.heap.size]? = some (.cells #[.int .u16 k.1, .string k.2] 35 (0, 0)) := by rw [hV]; exact heap_alloc_new w _
 have HL := hid (slen_ (cell_touch h tv.drew))
 have HP := hid (among_ k hk n hn h64 V.drew)
 have TV := hid tv.drew
 have s0 : Bk1 w V.drew k := ⟨hb⟩
 have K0 : ∀ w', Bk1 w w' k → w'.cell? ⟨w.heap.size, 0, none⟩ = some (.int .u16 k.1) := fun w' h => cell_at h.k rfl
 have K1 : ∀ w', Bk1 w w' k → w'.cell? ⟨w.heap.size, 1, none⟩ = some (.string k.2) := fun w' h => cell_at h.k rfl
 have HB : Hid (∀ w2, Touch [] V.drew w2 → Bk1 w w2 k) := hid (fun w2 T => ⟨T.keep hb (by simp)⟩)
 clear h hn h64 tv hb hk
 generalize Ky.plc k n = p at *
 unfold kv PT at *
 go_enter Tryz.func9, Tryz.ntmps9
 go_upto_region 1 with fail
 rw [← hV]
 clear hV
 refine wp_region_H (S := fun w' => Bk1 w w' k) (by kernel_rfl) ?_
 refine wpH_take (i := 0) (v := (.pointer (some ⟨s, 0, none⟩))) (some 5) rfl rfl (by kernel_rfl) (by kernel_rfl) (by kernel_rfl) (fun _ _ _ h => h) (Or.inl ⟨by rfl, fun w' hS => (by go_simp)⟩) s0 ?_
 try simp only [Go.Act.put, Zx, Zy, Zz]
 refine wpH_take (i := 2) (v := (.agg #[.int .u16 k.1, .string k.2])) (some 7) rfl rfl (by kernel_rfl) (by kernel_rfl) (by kernel_rfl) (fun _ _ _ h => h) (Or.inl ⟨by rfl, fun w' hS => (by have z0 := K0 _ hS; have z1 := K1 _ hS; go_simp)⟩) s0 ?_
 try simp only [Go.Act.put, Zx, Zy, Zz]
 refine wpH_call (i := 1) (o := { dst := some 6, op := Op.call { callee := Callee.value (Operand.func 23), args := #[Operand.tmp 5], argTypes := #[25] }, type := 3, pos := _, after := #[{ on := 0, ground := Ground.data }], guard := none }) (by kernel_rfl) rfl (fun K' hK => ?_)
 rw [if_pos (by rfl)]
 go_simp
 refine HL.out.mono ?_
 rintro e w2 ⟨rfl, e2⟩
 rw [e2]
 clear e2 w2
 refine hK.out _ _ s0 ?_
 clear hK
 try simp only [Go.Act.put, Zx, Zy, Zz]
 refine wpH_call (i := 3) (o := { dst := some 8, op := Op.call { callee := Callee.value (Operand.func 40), args := #[Operand.tmp 6, Operand.tmp 7], argTypes := #[3, 35] }, type := 3, pos := _, after := #[{ on := 1, ground := Ground.data }, { on := 2, ground := Ground.data }, { on := 1, ground := Ground.chain }], guard := none }) (by kernel_rfl) rfl (fun K' hK => ?_)
 rw [if_pos (by rfl)]
 go_simp
 refine HP.out.mono ?_
 rintro e w3 ⟨rfl, t3⟩
 have T3 := hid t3
 have s3 := HB.out _ t3
 clear t3
 refine hK.out _ _ s3 ?_
 clear hK
 try simp only [Go.Act.put, Zx, Zy, Zz]
 refine wpH_take (i := 4) (v := (.int .i64 (p : Int))) (some 4) rfl rfl (by kernel_rfl) (by kernel_rfl) (by kernel_rfl) (fun _ _ _ h => h) (Or.inl ⟨by rfl, fun w' hS => (by go_simp)⟩) s3 ?_
 try simp only [Go.Act.put, Zx, Zy, Zz]
 refine wpAnyH_done (by kernel_rfl) ?_ _
 go_wp2
 go_ret
 exact ⟨rfl, TV.out.trans' T3.out⟩
end
def sjE (l : List Gp) (now : Int) (G : List Int) (n : Int) (k : K) (x t : Int) : Int := if Me.tickE now n ≠ 0 then Me.tickE now n else if 64 < k.2.size then 20 else if x < 1 ∨ t < 0 then 1 else if t ∈ G then 152 else if (wpos l x).isSome then 160 else 0
theorem zeroU (w : World) : (zeroValue 120).run Tryz.prog w = .ok (.agg #[]) w := by kernel_rfl
theorem zeroI (w : World) : (zeroValue 3).run Tryz.prog w = .ok (.int .i64 0) w := by kernel_rfl
section
variable {w : World} {s : Nat} {gv : Value} {mw mc : Nat} {U : List Gu} {now : Int} {G : List Int} {M : Nat} {l : List Gp}
theorem Hx.gone {f : Int → Option Value} (h : Hx w s gv mw mc U now f G M) {t : Int} (ht : W64 t) : (Instr.lookup 98 (.map (some mc)) (.int .i64 t) true).run Tryz.prog w = .ok (.tuple #[.agg #[], .bool (decide (t ∈ G))]) w := by
 obtain ⟨n, hn, hm⟩ := h.cm
 have := hm.lookOk (t := 98) Tryz.underlying98 (zeroU w) (k := t) ht
 have e1 : (Lv.kmap G t).getD (.agg #[]) = .agg #[] := by unfold Lv.kmap; split <;> rfl
 have e2 : (Lv.kmap G t).isSome = decide (t ∈ G) := by unfold Lv.kmap; split <;> simp [*]
 rw [e1, e2] at this
 exact this
theorem Hx.waits {f : Int → Option Value} (h : Hx w s gv mw mc U now f G M) {x : Int} (hx : W64 x) : (Instr.lookup 97 (.map (some mw)) (.int .i64 x) true).run Tryz.prog w = .ok (.tuple #[(f x).getD (.int .i64 0), .bool (f x).isSome]) w := by
 obtain ⟨n, hn, hm⟩ := h.wm
 exact hm.lookOk (t := 97) Tryz.underlying97 (zeroI w) (k := x) hx
theorem wmap_some (l : List Gp) (x : Int) : (wmap l x).isSome = (wpos l x).isSome := by unfold wmap; cases wpos l x <;> rfl
set_option maxHeartbeats 8000000 in
theorem smay_ (h : Hx w s gv mw mc U now (wmap l) G M) (hl : 1 ≤ U.length) (n : Int) (k : K) (hk : Ok k) {x t : Int} (hx : W64 x) (ht : W64 t) : Calls Tryz.prog 41 #[PT s, .int .i64 n, kv k, .int .i64 x, .int .i64 t] w fun e w' => e = .returned (.int .i64 (sjE l now G n k x t)) ∧ Touch [] w w' := by
 obtain ⟨a, c, rfl⟩ := h.row
 obtain ⟨V, hV⟩ : ∃ V, V = w.alloc (Ta.bxK k) := ⟨_, rfl⟩
 have tv : Touch [] w V := by rw [hV]; exact (Touch.refl _ _).alloc _
 have hb : V.heap[w.heap.size]? = some (.cells #[.int .u16 k.1, .string k.2] 35 (0, 0)) := by rw [hV]; exact heap_alloc_new w _
 have hV1 := h.keep0 tv
 have H0 := hid (scheck_ hV1.cs.c0 hV1.cs.c1 hl n)
 have H1 := hid (Ta.fCheck V k hk)
 have b0 := cell_at (j := 0) hb rfl
 have b1 := cell_at (j := 1) hb rfl
 obtain ⟨v0, hv0⟩ : ∃ v0, v0 = (wmap l x).getD (.int .i64 0) := ⟨_, rfl⟩
 have hv0' : ∃ z : Int, v0 = .int .i64 z := by
  rw [hv0]
  unfold wmap
  cases wpos l x <;> exact ⟨_, rfl⟩
 obtain ⟨z0, hz0⟩ := hv0'
 rw [hz0] at hv0
 have HC : Hid (∀ w2, Touch [] V w2 → w2.cell? ⟨s, 2, none⟩ = some (.map (some mw)) ∧ w2.cell? ⟨s, 3, none⟩ = some (.map (some mc)) ∧ (Instr.lookup 98 (.map (some mc)) (.int .i64 t) true).run Tryz.prog w2 = .ok (.tuple #[.agg #[], .bool (decide (t ∈ G))]) w2 ∧ (∀ ob, (Instr.lookup 97 (.map (some mw)) (.int .i64 x) true).run Tryz.prog (w2.alloc ob) = .ok (.tuple #[.int .i64 z0, .bool (wpos l x).isSome]) (w2.alloc ob)) ∧ ∀ ob, (w2.alloc ob).cell? ⟨s, 2, none⟩ = some (.map (some mw))) := hid (fun w2 T => by
  have q := hV1.keep0 T
  refine ⟨q.cs.c2, q.cs.c3, q.gone ht, fun ob => ?_, fun ob => (q.keep0 ((Touch.refl [] _).alloc ob)).cs.c2⟩
  have := (q.keep0 ((Touch.refl [] _).alloc ob)).waits hx
  rw [← hv0, wmap_some] at this
  exact this)
 have TV := hid tv
 have e2 : Ta.tForE k = if 64 < k.2.size then 20 else 0 := by
  unfold Ta.tForE Ta.mayK
  by_cases h : 64 < k.2.size <;> simp [h] <;> omega
 clear h tv hb hV1 hx ht hv0 hz0 hk
 unfold sjE
 unfold Ta.bxK at hV
 unfold kv PT at *
 generalize Me.tickE now n = E0 at *
 by_cases hz : E0 ≠ 0
 ·rw [if_pos hz]
  have hz' : (E0 != 0) = true := by simp [hz]
  clear hz HC H1
  go_enter Tryz.func41, Tryz.ntmps41
  go_upto_region 1 with fail
  rw [← hV]
  clear hV
  go_wp2_with (go_at_call 47; refine H0.out.mono ?_; rintro e w1 ⟨rfl, e1⟩; rw [e1]; clear e1 w1)
  go_ret
  exact ⟨rfl, TV.out⟩
 ·rw [if_neg hz]
  have hz0 : E0 = 0 := by simpa using hz
  rw [hz0] at H0
  clear hz hz0 E0
  obtain ⟨E, hE⟩ : ∃ E, E = (if 64 < k.2.size then (20 : Int) else if x < 1 ∨ t < 0 then 1 else if t ∈ G then 152 else if (wpos l x).isSome then 160 else 0) := ⟨_, rfl⟩
  rw [← hE]
  have RT : ∀ {a b : Int}, a = b → Ending.returned (.int .i64 b) = .returned (.int .i64 a) := fun h => by rw [h]
  have CK : Hid (∀ w2, Touch [] V w2 → Touch [] w w2) := hid (fun w2 T => TV.out.trans' T)
  go_enter Tryz.func41, Tryz.ntmps41
  go_upto_region 1 with fail
  rw [← hV]
  clear hV
  by_cases hk6 : 64 < k.2.size
  ·rw [if_pos hk6] at e2 hE
   rw [e2] at H1
   have HE := hid hE
   clear HC e2 hk6 hE
   go_wp2_with (first
    | (go_at_call 47; refine H0.out.mono ?_; rintro e w1 ⟨rfl, e1⟩; rw [e1]; clear e1 w1)
    | (go_at_call 85; refine H1.out.mono ?_; rintro e w2 ⟨rfl, t2⟩; have T2 := hid t2; clear t2))
   go_ret
   exact ⟨RT HE.out, CK.out _ T2.out⟩
  ·rw [if_neg hk6] at e2 hE
   rw [e2] at H1
   clear e2 hk6
   have hE' := hid hE
   clear hE
   go_upto_region 7 with (first
    | (go_at_call 47; refine H0.out.mono ?_; rintro e w1 ⟨rfl, e1⟩; rw [e1]; clear e1 w1)
    | (go_at_call 85; refine H1.out.mono ?_; rintro e w2 ⟨rfl, t2⟩; have T2 := hid t2; clear t2))
   clear b0 b1
   have hE := hE'.out
   clear hE'
   by_cases hxt : x < 1 ∨ t < 0
   ·rw [if_pos hxt] at hE
    have HE := hid hE
    clear HC hE
    rcases hxt with hxt | hxt
    ·go_wp2
     go_ret
     exact ⟨RT HE.out, CK.out _ T2.out⟩
    ·by_cases hx1 : x < 1
     ·go_wp2
      go_ret
      exact ⟨RT HE.out, CK.out _ T2.out⟩
     ·go_wp2
      go_ret
      exact ⟨RT HE.out, CK.out _ T2.out⟩
   ·rw [if_neg hxt] at hE
    have hx1 : ¬ x < 1 := fun e => hxt (Or.inl e)
    have ht1 : ¬ t < 0 := fun e => hxt (Or.inr e)
    clear hxt
    obtain ⟨c2, c3, lk1, lk2, c2'⟩ := HC.out _ T2.out
    clear HC
    by_cases hg : t ∈ G
    ·rw [if_pos hg] at hE
     have HE := hid hE
     clear hE
     rw [decide_eq_true hg] at lk1
     clear lk2 c2' hg
     go_wp2
     go_ret
     exact ⟨RT HE.out, CK.out _ (T2.out.alloc _)⟩
    ·rw [if_neg hg] at hE
     rw [decide_eq_false hg] at lk1
     clear hg
     cases hp : (wpos l x).isSome with
     | true =>
      rw [hp, if_pos rfl] at hE
      rw [hp] at lk2
      have HE := hid hE
      clear hp hE
      go_wp2
      go_ret
      exact ⟨RT HE.out, CK.out _ (T2.out.alloc _)⟩
     | false =>
      rw [hp, if_neg (by simp)] at hE
      rw [hp] at lk2
      have HE := hid hE
      clear hp hE
      go_wp2
      go_ret
      exact ⟨RT HE.out, CK.out _ (T2.out.alloc _)⟩
end
end Go.Proofs.YtllchnancjgijaaGreat
/- What a group's steps leave of its time, its tokens and its configuration; the shards' steps in plain words, and that what holds of shards is kept by them; no program. -/
namespace Go.Proofs.YtllchnancjgijaaGreat
structure Ngc (X Y : Gp) (n : Int) : Prop where
 n : Y.now = n
 g : Y.G = X.G
 c : Y.c = X.c
theorem mee_gc (Y : Gp) (k : K) (z : Int) : (meeX Y k z).G = Y.G ∧ (meeX Y k z).c = Y.c := by
 unfold meeX
 split
 ·unfold renX
  split
  ·exact ⟨rfl, rfl⟩
  ·split <;> exact ⟨rfl, rfl⟩
 ·exact ⟨rfl, rfl⟩
theorem tel_gc (Y : Gp) (k : K) : (telX Y k).G = Y.G ∧ (telX Y k).c = Y.c := by
 unfold telX
 split <;> exact mee_gc Y k _
theorem wai_gc (Y : Gp) (k : K) (x t : Int) : (waiX Y k x t).G = Y.G ∧ (waiX Y k x t).c = Y.c := by
 unfold waiX
 split
 ·exact ⟨rfl, rfl⟩
 ·split <;> exact ⟨rfl, rfl⟩
section
variable {X : Gp} {n : Int}
theorem jo_ngc {k : K} {x t : Int} (h : mayE X n k x t = 0) : Ngc X (joX X n k x t) n := by
 unfold joX
 rw [if_neg (by simp [h])]
 obtain ⟨a, b⟩ := telX_now { X with now := n } k
 obtain ⟨g, c⟩ := tel_gc { X with now := n } k
 split
 ·exact ⟨a, g, c⟩
 ·obtain ⟨c1, d⟩ := waiX_now (telX { X with now := n } k) k x t
  obtain ⟨g2, c2⟩ := wai_gc (telX { X with now := n } k) k x t
  exact ⟨c1.trans a, g2.trans g, c2.trans c⟩
theorem rlX_gc (Y : Gp) (gs : List K) : (rlX Y gs).G = Y.G ∧ (rlX Y gs).c = Y.c := by
 cases gs <;> exact ⟨rfl, rfl⟩
theorem ed_ngc {r : Int} {o : O} (h : edE X n r o = 0) : Ngc X (edX X n r o) n := by
 unfold edX
 rw [if_neg (by simp [h])]
 split
 ·obtain ⟨a, _, _⟩ := rlX_now (ed2 X n r o) (edG X n r o)
  obtain ⟨g, c⟩ := rlX_gc (ed2 X n r o) (edG X n r o)
  exact ⟨a, g, c⟩
 ·exact ⟨rfl, rfl, rfl⟩
theorem tk_of {now : Int} (h : Me.tickE now n = 0) (hX : X.now ≤ now) : tkE X n = 0 := by
 unfold tkE
 unfold Me.tickE at *
 split at h
 ·rename_i e
  rw [if_pos e]
  split at h
  ·cases h
  ·rw [if_neg (by omega)]
 ·cases h
theorem tick_le {now : Int} (h : Me.tickE now n = 0) : now ≤ n ∧ n ≤ 4611686018427387904 := by
 unfold Me.tickE at h
 split at h
 ·rename_i e
  unfold Me.isT at e
  simp only [Bool.and_eq_true, decide_eq_true_eq] at e
  split at h
  ·cases h
  ·exact ⟨by omega, e.2⟩
 ·cases h
end
section
variable {l : List Gp} {now : Int} {G : List Int} {X : Gp} {p : Nat} {n : Int} {k : K} {x t : Int}
theorem sj0 (h : sjE l now G n k x t = 0) : Me.tickE now n = 0 ∧ k.2.size ≤ 64 ∧ 1 ≤ x ∧ 0 ≤ t ∧ ¬ t ∈ G ∧ ∀ Z ∈ l, ¬ Sit Z x := by
 unfold sjE at h
 split at h
 ·rename_i e; exact absurd h e
 rename_i e0
 split at h
 ·cases h
 split at h
 ·cases h
 split at h
 ·cases h
 split at h
 ·cases h
 rename_i e1 e2 e3 e4
 exact ⟨by simpa using e0, by omega, by omega, by omega, e3, wpos_none.1 (by simpa using e4)⟩
theorem sj_may (hs : Si l now G) (h : sjE l now G n k x t = 0) (hp : l[p]? = some X) : mayE X n k x t = 0 := by
 obtain ⟨h1, h2, h3, h4, h5, h6⟩ := sj0 h
 have hX := List.mem_of_getElem? hp
 unfold mayE
 rw [if_neg (by simp [tk_of h1 (hs.nw X hX)]), if_neg (by omega), if_neg (by omega), if_neg (by omega), if_neg (by rw [hs.gg X hX]; exact h5), if_neg (by rw [whr_sit]; exact h6 X hX)]
theorem sit_snoc {Y : Gp} {r : Int} (h : Y.L = X.L ++ [(x, r, t)]) (c : Int) : Sit Y c ↔ Sit X c ∨ c = x := by
 unfold Sit
 rw [h]
 constructor
 ·rintro ⟨y, hy, e⟩
  rcases List.mem_append.1 hy with q | q
  ·exact Or.inl ⟨y, q, e⟩
  ·simp only [List.mem_singleton] at q
   subst q
   exact Or.inr e.symm
 ·rintro (⟨y, hy, e⟩ | e)
  ·exact ⟨y, List.mem_append_left _ hy, e⟩
  ·exact ⟨(x, r, t), by simp, e.symm⟩
def sjF (l : List Gp) (J : Jd) (x : Int) (p : Nat) : Int → Option Value := if J.how = 3 ∨ J.how = 5 then kupd (wmap l) x (.int .i64 (p : Int)) else wmap l
theorem sj_si (hs : Si l now G) (h : sjE l now G n k x t = 0) (hp : l[p]? = some X) {M : Nat} (hT : Ta.Ti X.T M) : Si (l.set p (joX X n k x t)) n G ∧ wmap (l.set p (joX X n k x t)) = sjF l (joJ X n k x t) x p := by
 have hm := sj_may hs h hp
 obtain ⟨h1, h2, h3, h4, h5, h6⟩ := sj0 h
 obtain ⟨t1, t2⟩ := tick_le h1
 have q := jo_ngc hm
 have hX := List.mem_of_getElem? hp
 have key : Un (l.set p (joX X n k x t)) ∧ wmap (l.set p (joX X n k x t)) = sjF l (joJ X n k x t) x p := by
  unfold sjF
  rcases jo_seat hT n k x t with ⟨c1, c2⟩ | ⟨c1, c2, c3, _⟩
  ·rw [if_neg c1]
   have e : ∀ c, Sit (joX X n k x t) c ↔ Sit X c := fun c => by unfold Sit; rw [c2]
   exact ⟨hs.un.set hp (fun c h => Or.inl ((e c).1 h)), wmap_keep hs.un hp e⟩
  ·rw [if_pos c1]
   exact wmap_add hs.un hp h6 (sit_snoc c3)
 exact ⟨hs.set hp t1 t2 (by rw [q.n]; exact Int.le_refl _) (by rw [q.g]; exact hs.gg X hX) q.c key.1, key.2⟩
end
end Go.Proofs.YtllchnancjgijaaGreat
/- What ending and cancelling make of who waits where, in plain words; no program. -/
namespace Go.Proofs.YtllchnancjgijaaGreat
section
variable {X : Gp}
theorem ed_ys (h : Gi X) {M : Nat} (hT : Ta.Ti X.T M) (hn : (X.L.map Prod.fst).Nodup) (n r : Int) (o : O) : ∃ ys : List Lv.Se, (edD X n r o).told = ys.map Prod.fst ∧ (∀ y ∈ ys, y ∈ X.L ∧ y.2.1 = r) ∧ (ys.map Prod.fst).Nodup ∧ (edX X n r o).L = Lv.outs X.L ys := by
 by_cases hE : edE X n r o = 0
 ·have hte : Ta.tEndE X.T r o = 0 := by
   unfold edE at hE
   split at hE
   ·contradiction
   ·exact hE
  have hrun : ∃ p, Ta.runOf X.T r = some p ∧ Ta.endE p.2 o = 0 := by
   unfold Ta.tEndE at hte
   cases hr : Ta.runOf X.T r with
   | none => rw [hr] at hte; cases hte
   | some p => rw [hr] at hte; exact ⟨p, rfl, hte⟩
  obtain ⟨p, hr, he⟩ := hrun
  obtain ⟨hp, hpr⟩ := Ta.runOf_mem hr
  have htl : Ta.tEndL X.T r o = (Lv.inL 1 r X.L).map Prod.fst := by
   unfold Ta.tEndL
   rw [hr]
   show Ta.endL p.2 o = _
   unfold Ta.endL
   rw [if_pos he, h.ws p hp, hpr]
   rfl
  refine ⟨Lv.inL 1 r X.L, ?_, fun y hy => ?_, hn.sublist (List.filter_sublist.map _), ?_⟩
  ·rw [← htl]
   unfold edD
   rw [if_neg (by simpa using hE)]
   split <;> rfl
  ·obtain ⟨h1, h2⟩ := List.mem_filter.1 hy
   exact ⟨h1, by simpa [Lv.bn] using h2⟩
  ·rw [ed_l, if_pos hE, Lv.outs_in hn]
 ·refine ⟨[], ?_, (fun y hy => by cases hy), (by simp), (by rw [ed_l, if_neg hE]; rfl)⟩
  unfold edD
  rw [if_pos hE]
  rfl
theorem sit_outs {Y : Gp} {ys : List Lv.Se} (h : Y.L = Lv.outs X.L ys) (c : Int) : Sit Y c ↔ Sit X c ∧ ¬ c ∈ ys.map Prod.fst := by
 unfold Sit
 rw [h, Lv.outs_eq]
 constructor
 ·rintro ⟨y, hy, e⟩
  obtain ⟨h1, h2⟩ := List.mem_filter.1 hy
  refine ⟨⟨y, h1, e⟩, fun hm => ?_⟩
  simp only [Bool.not_eq_true', decide_eq_false_iff_not] at h2
  exact h2 (by rw [e]; exact hm)
 ·rintro ⟨⟨y, hy, e⟩, hn⟩
  refine ⟨y, List.mem_filter.2 ⟨hy, ?_⟩, e⟩
  simp only [Bool.not_eq_true', decide_eq_false_iff_not]
  rw [e]
  exact hn
end
section
variable {l : List Gp} {now : Int} {G : List Int} {X : Gp} {p : Nat} {n : Int}
theorem out_si (hs : Si l now G) (ht : Me.tickE now n = 0) (hp : l[p]? = some X) {Y : Gp} {ys : List Lv.Se} (hY : Ngc X Y n) (hL : Y.L = Lv.outs X.L ys) (hy : ∀ y ∈ ys, y ∈ X.L) : Si (l.set p Y) n G ∧ wmap (l.set p Y) = kdels (wmap l) (ys.map Prod.fst) := by
 obtain ⟨t1, t2⟩ := tick_le ht
 have hX := List.mem_of_getElem? hp
 have key := wmap_del hs.un hp (X' := Y) (xs := ys.map Prod.fst) (fun c hc => by
  obtain ⟨y, hy', rfl⟩ := List.mem_map.1 hc
  exact ⟨y, hy y hy', rfl⟩) (sit_outs hL)
 exact ⟨hs.set hp t1 t2 (by rw [hY.n]; exact Int.le_refl _) (by rw [hY.g]; exact hs.gg X hX) hY.c key.1, key.2⟩
end
def plR (n : Nat) (r : Int) : Nat := ((r - 1) % (n : Int)).toNat
def owR (n : Nat) (r : Int) : Int := (r - 1) / (n : Int) + 1
theorem plR_lt {n : Nat} (h : 1 ≤ n) (r : Int) : plR n r < n := by
 unfold plR
 have h1 : 0 ≤ (r - 1) % (n : Int) := Int.emod_nonneg _ (by omega)
 have h2 : (r - 1) % (n : Int) < n := Int.emod_lt_of_pos _ (by omega)
 omega
theorem plR_int {n : Nat} (h : 1 ≤ n) (r : Int) : ((plR n r : Nat) : Int) = (r - 1) % (n : Int) := by
 unfold plR
 have h1 : 0 ≤ (r - 1) % (n : Int) := Int.emod_nonneg _ (by omega)
 omega
theorem owR_w {n : Nat} (h : 1 ≤ n) {r : Int} (h1 : 1 ≤ r) (hr : W64 r) : W64 (owR n r) := by
 have h2 : r ≤ 9223372036854775807 := hr.hi
 have hd : (r - 1) / (n : Int) ≤ r - 1 := Int.ediv_le_self _ (by omega)
 have hd0 : 0 ≤ (r - 1) / (n : Int) := Int.ediv_nonneg (by omega) (by omega)
 unfold owR
 refine W64.mk (by omega) (by omega)
def sedD (r : Int) (n p : Nat) (D : Dn) : Dn := { D with R := { D.R with run := r }, left := D.left.map (numW n (p : Int)) }
end Go.Proofs.YtllchnancjgijaaGreat
/- The contract of Join; no conditions but those that it states. -/
namespace Go.Proofs.YtllchnancjgijaaGreat
open Go.RowKit Go.Maps Go.ChangeMaps
def sjJ (n p : Nat) (J : Jd) : Jd := { J with run := numW n (p : Int) J.run, sent := J.sent.map (numW n (p : Int)) }
theorem addL_len {S : Ba.Bs} (h : S.run.length < 1024) (n x : Int) : (Ba.addL S n x).length ≤ 1024 := by
 unfold Ba.addL
 split
 ·simp
 ·split
  ·simp; omega
  ·simp
theorem mee_sent {X : Gp} (h : X.B.run.length < 1024) (k : K) (z : Int) : (meeJ X k z).sent.length ≤ 1024 := by
 unfold meeJ
 split
 ·simp
 ·split
  ·unfold renJ
   split
   ·simp
   ·split
    ·exact addL_len h _ _
    ·simp [Jd.z]
  ·simp [Jd.z]
theorem tel_sent {X : Gp} (h : X.B.run.length < 1024) (k : K) : (telJ X k).sent.length ≤ 1024 := by
 unfold telJ
 split
 ·exact mee_sent h k _
 ·simp [Jd.z]
theorem wai_sent {X : Gp} (h : X.B.run.length < 1024) (k : K) (x : Int) : (waiJ X k x).sent.length ≤ 1024 := by
 unfold waiJ
 split
 ·simp
 ·split
  ·exact addL_len h _ _
  ·simp
theorem jo_sent {X : Gp} (h : X.B.run.length < 1024) (n : Int) (k : K) (x t : Int) : (joJ X n k x t).sent.length ≤ 1024 := by
 unfold joJ
 split
 ·simp [Jd.z]
 ·split
  ·exact tel_sent (X := { X with now := n }) h k
  ·rename_i hb
   have q := (tel_no (X := { X with now := n }) (k := k) (by simpa using hb)).2.2.2.2.2.2
   exact wai_sent (by rw [q]; exact h) k x
theorem Rd.keepK {w w' : World} {v : Value} {xs : List Int} (h : Rd w v xs) (hk : ∀ (g : Nat) (cs : Array Value) (z : Nat × Nat), w.heap[g]? = some (.cells cs 3 z) → w'.heap[g]? = some (.cells cs 3 z)) : Rd w' v xs := by
 obtain ⟨a, c, e, h1, h2, h3, h4 | ⟨b, cur, e', z, h5, h6, h7⟩⟩ := h
 ·exact ⟨a, c, e, h1, h2, h3, Or.inl h4⟩
 ·exact ⟨a, c, e, h1, h2, h3, Or.inr ⟨b, cur, e', z, h5, hk _ _ _ h6, h7⟩⟩
theorem Rd.kbox {w w' : World} {v : Value} {xs : List Int} {b : Nat} {cs : Array Value} {t : TypeId} {z : Nat × Nat} (h : Rd w v xs) (T : Touch [b] w w') (hb : w.heap[b]? = some (.cells cs t z)) (ht : t ≠ 3) : Rd w' v xs := h.keepK (fun g cs' z' hg => T.keep hg (fun e => by
 simp only [List.mem_singleton] at e
 rw [e, hb] at hg
 simp only [Option.some.injEq, Obj.cells.injEq] at hg
 exact ht hg.2.1))
theorem Rd.kmap {w w' : World} {v : Value} {xs : List Int} {b n : Nat} {f : Int → Option Value} (h : Rd w v xs) (T : Touch [b] w w') (hb : MapK KI w b n f) : Rd w' v xs := h.keepK (fun g cs' z' hg => T.keep hg (fun e => by
 simp only [List.mem_singleton] at e
 obtain ⟨es, cl, hk⟩ := hb.kind
 rw [e, hk] at hg
 cases hg))
structure Sg (w : World) (s : Nat) (gv : Value) (r q g b : Nat) (k : K) : Prop where
 c0 : w.cell? ⟨s, 0, none⟩ = some gv
 cp : w.cell? ⟨r, q, none⟩ = some (.pointer (some ⟨g, 0, none⟩))
 k0 : w.cell? ⟨b, 0, none⟩ = some (.int .u16 k.1)
 k1 : w.cell? ⟨b, 1, none⟩ = some (.string k.2)
theorem Gq.blen {w : World} {g : Nat} {P : Pt} {F : List Nat} {X : Gp} {N : Cn} (q : Gq w g P F X N) : X.B.run.length < 1024 := q.iv.2.2.2.2.len
theorem st8j {w : World} {b : Nat} {t : TypeId} {z0 z1 z2 z3 z4 z5 z6 z7 : Value} (h : w.heap[b]? = some (.cells #[z0, z1, z2, z3, z4, z5, z6, z7] t (0, 0))) (v0 v1 v2 v3 v4 v5 v6 v7 : Value) :
  ((((((((w.setCell ⟨b, 0, none⟩ v0).setCell ⟨b, 1, none⟩ v1).setCell ⟨b, 2, none⟩ v2).setCell ⟨b, 3, none⟩ v3).setCell ⟨b, 4, none⟩ v4).setCell ⟨b, 5, none⟩ v5).setCell ⟨b, 6, none⟩ v6).setCell ⟨b, 7, none⟩ v7).heap[b]? = some (.cells #[v0, v1, v2, v3, v4, v5, v6, v7] t (0, 0)) ∧ Touch [b] w ((((((((w.setCell ⟨b, 0, none⟩ v0).setCell ⟨b, 1, none⟩ v1).setCell ⟨b, 2, none⟩ v2).setCell ⟨b, 3, none⟩ v3).setCell ⟨b, 4, none⟩ v4).setCell ⟨b, 5, none⟩ v5).setCell ⟨b, 6, none⟩ v6).setCell ⟨b, 7, none⟩ v7) := by
 refine ⟨by simp [World.setCell, Array.getElem?_modify, h], ?_⟩
 have hm : b ∈ [b] := by simp
 exact ((((((((Touch.refl _ _).setCell (Or.inl hm) _).setCell (Or.inl hm) _).setCell (Or.inl hm) _).setCell (Or.inl hm) _).setCell (Or.inl hm) _).setCell (Or.inl hm) _).setCell (Or.inl hm) _).setCell (Or.inl hm) _
def kbx (k : K) : Array Value := #[.int .u16 k.1, .string k.2]
section
variable {w : World} {s : Nat} {F : List Nat} {l : List Gp} {now : Int} {G : List Int} {M : Nat} {X : Gp}
set_option maxHeartbeats 16000000 in
theorem sjoin_ {M' : Nat} (h : Hq w s F l now G M) (hM : M ≤ 2800000000000) (hMM : M + 1 ≤ M') (n : Int) (k : K) (hk : Ok k) {x t : Int} (hx : W64 x) (ht : W64 t) (h0 : sjE l now G n k x t = 0) (hp : l[Ky.plc k l.length]? = some X) (hcs : ∀ N, Gk X N M → Ta.Ti X.T N.t → Gk (joX X n k x t) (joC X n k x t N) M') : Calls Tryz.prog 10 #[PT s, .int .i64 n, kv k, .int .i64 x, .int .i64 t] w fun e w' => ∃ v, e = .returned (.tuple #[jv (sjJ l.length (Ky.plc k l.length) (joJ X n k x t)) v, .int .i64 0]) ∧ Snt w' v (sjJ l.length (Ky.plc k l.length) (joJ X n k x t)).sent ∧ HqE w w' s F (l.set (Ky.plc k l.length) (joX X n k x t)) n G M' := by
 obtain ⟨gv, mw, mc, U, rfl, hl, hx1, hs⟩ := h
 obtain ⟨A, u, B, rfl, hA, rfl, hset⟩ := split_at hl hp
 have hm := sj_may hs h0 hp
 have hgk := hx1.gk u (by simp)
 have hT := (hx1.gs u (by simp)).ivs.1
 obtain ⟨si, wm⟩ := sj_si hs h0 hp hT
 have hlen : (A ++ u :: B).length = l.length := by rw [← hl, List.length_map]
 obtain ⟨a, c, rfl⟩ := hx1.row
 rw [hlen] at hx1
 obtain ⟨N0, hN0⟩ : ∃ N0, N0 = l.length := ⟨_, rfl⟩
 have l1 := hs.l1
 have l2 := hs.l2
 rw [← hN0] at hx1 hp hA hset si wm l1 l2 ⊢
 obtain ⟨p, hpp⟩ : ∃ p, p = Ky.plc k N0 := ⟨_, rfl⟩
 have hpl : p < N0 := by rw [hpp]; exact Ky.plc_lt k l1
 obtain ⟨V, hV⟩ : ∃ V, V = (w.alloc (.cells (kbx k) 35)).alloc (.cells jz 45) := ⟨_, rfl⟩
 have B0 : Hb w (fpH s mw mc (A ++ u :: B)) V s (.slice a N0 c) mw mc (A ++ u :: B) now (wmap l) G M' [(w.heap.size + 1, jz, 45), (w.heap.size, kbx k, 35)] := by
  have := (((Hb.start hx1).mono ((by omega : M ≤ M'))).new (kbx k) 35 (by decide)).new jz 45 (by decide)
  rwa [World.size_alloc, ← hV] at this
 have HMY := hid (smay_ B0.r.x (by rw [hlen]; omega) n k hk hx ht)
 rw [h0] at HMY
 have hb := B0.at_ (k := w.heap.size) (cs := kbx k) (t := 35) (by simp)
 have b0 := cell_at (j := 0) (v := .int .u16 k.1) hb rfl
 have b1 := cell_at (j := 1) (v := .string k.2) hb rfl
 have HB0 := hid B0
 -- the time
 have HTK : Hid (∀ w1, Touch [] V w1 → w1.cell? ⟨s, 1, none⟩ = some (.int .i64 now) ∧ w1.frozen? ⟨s, 1, none⟩ = false ∧ Hb w (fpH s mw mc (A ++ u :: B)) (w1.setCell ⟨s, 1, none⟩ (.int .i64 n)) s (.slice a N0 c) mw mc (A ++ u :: B) n (wmap l) G M' [(w.heap.size + 1, jz, 45), (w.heap.size, kbx k, 35)]) := hid (fun w1 T => ⟨(HB0.out.keep0 T).cs.c1, (HB0.out.keep0 T).cs.f1, (HB0.out.keep0 T).tick n⟩)
 -- the place
 have HPL : Hid (∀ w1, Hb w (fpH s mw mc (A ++ u :: B)) w1 s (.slice a N0 c) mw mc (A ++ u :: B) n (wmap l) G M' [(w.heap.size + 1, jz, 45), (w.heap.size, kbx k, 35)] → Calls Tryz.prog 9 #[PT s, kv k] w1 fun e w' => e = .returned (.int .i64 (p : Int)) ∧ Hb w (fpH s mw mc (A ++ u :: B)) w'.drew s (.slice a N0 c) mw mc (A ++ u :: B) n (wmap l) G M' [(w.heap.size + 1, jz, 45), (w.heap.size, kbx k, 35)]) := hid (fun w1 q => by
  refine (place_ q.cs.c0 l1 l2 k hk).mono ?_
  rintro e w' ⟨e1, e2⟩
  exact ⟨by rw [hpp]; exact e1, (q.keep0 e2).drew⟩)
 have HPT : Hid (∀ (v : Gu) w1 f' now' Bs, v.g = u.g → Hb w (fpH s mw mc (A ++ u :: B)) w1 s (.slice a N0 c) mw mc (A ++ v :: B) now' f' G M' Bs → ∃ r off, a = some ⟨r, off, none⟩ ∧ w1.cell? ⟨r, off + p, none⟩ = some (PT u.g)) := hid (fun v w1 f' now' Bs ev q => by
  rw [← ev]
  exact q.r.x.ptr (by
  rw [List.getElem?_append_right (by rw [hA, hpp]; exact Nat.le_refl _), hA, ← hpp, Nat.sub_self]
  rfl))
 obtain ⟨r, off, rfl, -⟩ := HPT.out u _ _ _ _ rfl B0
 have HSV : Hid (∀ (v : Gu) w1 Bs, v.g = u.g → Hb w (fpH s mw mc (A ++ u :: B)) w1 s (.slice (some ⟨r, off, none⟩) N0 c) mw mc (A ++ v :: B) n (wmap l) G M' Bs → (w.heap.size, kbx k, 35) ∈ Bs → Sg w1 s (.slice (some ⟨r, off, none⟩) N0 c) r (off + p) u.g w.heap.size k) := hid (fun v w1 Bs ev q hb => by
  obtain ⟨r', off', e, h2⟩ := HPT.out v _ _ _ _ ev q
  cases e
  exact ⟨q.cs.c0, h2, cell_at (q.at_ hb) rfl, cell_at (q.at_ hb) rfl⟩)
 -- the group's own Join, with or without one box more
 have HJN : Hid (∀ w1 Bs, Hb w (fpH s mw mc (A ++ u :: B)) w1 s (.slice (some ⟨r, off, none⟩) N0 c) mw mc (A ++ u :: B) n (wmap l) G M' Bs → Calls Tryz.prog 11 #[PT u.g, .int .i64 n, kv k, .int .i64 x, .int .i64 t] w1 fun e w2 => ∃ a2 m2 c2, e = .returned (.tuple #[jv (joJ u.X n k x t) (.slice a2 m2 c2), .int .i64 0]) ∧ Rd w2 (.slice a2 m2 c2) (joJ u.X n k x t).sent ∧ ∃ U', U'.map Gu.X = l.set p (joX u.X n k x t) ∧ (∀ w3 Bs', Hb w (fpH s mw mc (A ++ u :: B)) w3 s (.slice (some ⟨r, off, none⟩) N0 c) mw mc U' n (wmap l) G M' Bs' → (w.heap.size, kbx k, 35) ∈ Bs' → Sg w3 s (.slice (some ⟨r, off, none⟩) N0 c) r (off + p) u.g w.heap.size k) ∧ Hb w (fpH s mw mc (A ++ u :: B)) w2 s (.slice (some ⟨r, off, none⟩) N0 c) mw mc U' n (wmap l) G M' Bs) := hid (fun w1 Bs q => by
  refine (q.join hgk hM n k hk hx ht (hcs _ hgk hT)).mono ?_
  rintro e w2 ⟨v, e1, ⟨e2, a2, m2, c2, rfl⟩, u', g1, g2, g3, g4⟩
  rw [hm] at e1
  exact ⟨a2, m2, c2, e1, e2, A ++ u' :: B, by rw [hset, g2, hpp], fun w3 Bs' q' hb' => HSV.out u' _ _ g1 q' hb', g4⟩)
 have hbl := (hx1.gs u (by simp)).blen
 have HSN := hid (jo_sent hbl n k x t)
 -- who waits
 have HWM : Hid (wmap (l.set p (joX u.X n k x t)) = sjF l (joJ u.X n k x t) x p) := hid (by rw [hpp]; exact wm)
 have HFI : Hid (∀ U' w3, U'.map Gu.X = l.set p (joX u.X n k x t) → Hr w (fpH s mw mc (A ++ u :: B)) w3 s (.slice (some ⟨r, off, none⟩) N0 c) mw mc U' n (sjF l (joJ u.X n k x t) x p) G M' → HqE w w3 s (fpH s mw mc (A ++ u :: B)) (l.set p (joX u.X n k x t)) n G M') := hid (fun U' w3 e q => by
  refine Hr.fin (gv := .slice (some ⟨r, off, none⟩) N0 c) (mw := mw) (mc := mc) (U := U') ?_ e (by rw [hpp]; exact si)
  rw [HWM.out]
  exact q)
 have HX := hid hx
 have HM0 := hid hx1.wm
 have HMM := hid hMM
 have HML : Hid (M + 1 < maxLen) := hid (by unfold maxLen; omega)
 have HP64 : Hid (p < N0 ∧ N0 ≤ 64) := hid ⟨hpl, l2⟩
 have HNR : Hid (∀ w1 U' f' Bs (v : Int), Hb w (fpH s mw mc (A ++ u :: B)) w1 s (.slice (some ⟨r, off, none⟩) N0 c) mw mc U' n f' G M' Bs → Calls Tryz.prog 42 #[PT s, .int .i64 (p : Int), .int .i64 v] w1 fun e w' => e = .returned (.int .i64 (numW N0 (p : Int) v)) ∧ w' = w1) := hid (fun w1 U' f' Bs v q => number_ q.cs.c0 _ _)
 have HNS : Hid (∀ w1 U' f' Bs (v : Value), Hb w (fpH s mw mc (A ++ u :: B)) w1 s (.slice (some ⟨r, off, none⟩) N0 c) mw mc U' n f' G M' Bs → Rd w1 v (joJ u.X n k x t).sent → Calls Tryz.prog 43 #[PT s, .int .i64 (p : Int), v] w1 fun e w' => ∃ a4 m4 c4, e = .returned (.slice a4 m4 c4) ∧ Rd w' (.slice a4 m4 c4) ((joJ u.X n k x t).sent.map (numW N0 (p : Int))) ∧ Hb w (fpH s mw mc (A ++ u :: B)) w' s (.slice (some ⟨r, off, none⟩) N0 c) mw mc U' n f' G M' Bs) := hid (fun w1 U' f' Bs v q hv => by
  refine (numbers_ q.cs.c0 _ hv (by have := HSN.out; omega)).mono ?_
  rintro e w' ⟨v', e1, ⟨e2, a4, m4, c4, rfl⟩, e3⟩
  exact ⟨a4, m4, c4, e1, e2, q.keep0 e3⟩)
 rw [← hpp]
 obtain ⟨F0, hF0⟩ : ∃ F0, F0 = fpH s mw mc (A ++ u :: B) := ⟨_, rfl⟩
 rw [← hF0] at HB0 HTK HPL HJN HPT HSV HFI HNR HNS ⊢
 clear hF0 HPT B0 hb hx1 hs hl hx ht hk h0 hp hA hset hm hgk hT si wm hlen hN0 l1 l2 hpl hbl hpp hM hMM hcs
 unfold sjJ sjF at *
 generalize l.set p (joX u.X n k x t) = L2 at *
 generalize joJ u.X n k x t = J at *
 unfold kbx jz at hV
 have HSG := hid (fun w1 Bs => HSV.out u w1 Bs rfl)
 clear HSV
 unfold kv PT jv jcs at *
 go_enter Tryz.func10, Tryz.ntmps10
 go_upto_region 1 with fail
 rw [← hV]
 clear hV
 go_upto_region 4 with (go_at_call 41; refine HMY.out.mono ?_; rintro e w1 ⟨rfl, t1⟩; obtain ⟨c1, f1, q1⟩ := HTK.out _ t1; clear t1 b0 b1)
 go_upto_region 5 with fail
 obtain ⟨W2, hW2⟩ : ∃ W2, W2 = w1.setCell ⟨s, 1, none⟩ (.int .i64 n) := ⟨_, rfl⟩
 rw [← hW2] at q1 ⊢
 have hb := q1.at_ (k := w.heap.size) (cs := kbx k) (t := 35) (by simp)
 have b0 := cell_at (j := 0) (v := .int .u16 k.1) hb rfl
 have b1 := cell_at (j := 1) (v := .string k.2) hb rfl
 have Q1 := hid q1
 clear hW2 q1 hb c1 f1 HMY HTK HB0
 go_upto_region 6 with (go_at_call 9; refine (HPL.out _ Q1.out).mono ?_; rintro e V3 ⟨rfl, q3⟩; have Q3 := hid q3; clear q3 b0 b1)
 clear Q1 HPL
 have zp1 : (p : Int) < (N0 : Int) := by have := HP64.out; omega
 have zp2 : (N0 : Int) ≤ 64 := by have := HP64.out; omega
 have S0 := HSG.out _ _ Q3.out (by simp)
 have C0 : ∀ w', Sg w' s (.slice (some ⟨r, off, none⟩) N0 c) r (off + p) u.g w.heap.size k → w'.cell? ⟨s, 0, none⟩ = some (.slice (some ⟨r, off, none⟩) N0 c) := fun w' h => h.c0
 have CP : ∀ w', Sg w' s (.slice (some ⟨r, off, none⟩) N0 c) r (off + p) u.g w.heap.size k → w'.cell? ⟨r, off + p, none⟩ = some (.pointer (some ⟨u.g, 0, none⟩)) := fun w' h => h.cp
 have K0 : ∀ w', Sg w' s (.slice (some ⟨r, off, none⟩) N0 c) r (off + p) u.g w.heap.size k → w'.cell? ⟨w.heap.size, 0, none⟩ = some (.int .u16 k.1) := fun w' h => h.k0
 have K1 : ∀ w', Sg w' s (.slice (some ⟨r, off, none⟩) N0 c) r (off + p) u.g w.heap.size k → w'.cell? ⟨w.heap.size, 1, none⟩ = some (.string k.2) := fun w' h => h.k1
 obtain ⟨jb, hjb⟩ : ∃ jb : Value → Array Value, jb = fun v => #[.int .i64 J.how, .int .i64 J.run, .bool J.bg, .int .i64 J.o.1, .int .i64 J.o.2.1, .int .i64 J.o.2.2.1, .int .i64 J.o.2.2.2, v] := ⟨_, rfl⟩
 have HJB := hid hjb
 clear hjb
 go_cut [14, 15] from 33 to 47 (fun s14 s15 wx => ∃ b6 : Nat, s14 = .pointer (some ⟨b6, 0, none⟩) ∧ s15 = .int .i64 0 ∧ Hid (∃ a2 m2 c2 U', Rd wx (.slice a2 m2 c2) J.sent ∧ U'.map Gu.X = L2 ∧ w.heap.size + 1 < b6 ∧ Hb w F0 wx s (.slice (some ⟨r, off, none⟩) N0 c) mw mc U' n (wmap l) G M' [(b6, jb (.slice a2 m2 c2), 45), (w.heap.size + 1, jz, 45), (w.heap.size, kbx k, 35)]))
 case first =>
  refine wp_region_L (S := fun w' => Sg w' s (.slice (some ⟨r, off, none⟩) N0 c) r (off + p) u.g w.heap.size k) (st := 16) (by kernel_rfl) ?_
  refine wpL_take (i := 0) (v := (.pointer (some ⟨s, 0, none⟩))) (some 34) rfl rfl (by kernel_rfl) (by kernel_rfl) (by kernel_rfl) (by kernel_rfl) (by kernel_rfl) (by decide) (fun _ _ _ h => h) (Or.inl ⟨by rfl, fun w' hS => (by go_simp)⟩) S0 ?_
  try simp only [Go.Act.put, Zx, Zy, Zz]
  refine wpL_take (i := 1) (v := (.pointer (some ⟨s, 0, none⟩))) (some 35) rfl rfl (by kernel_rfl) (by kernel_rfl) (by kernel_rfl) (by kernel_rfl) (by kernel_rfl) (by decide) (fun _ _ _ h => h) (Or.inl ⟨by rfl, fun w' hS => (by go_simp)⟩) S0 ?_
  try simp only [Go.Act.put, Zx, Zy, Zz]
  refine wpL_take (i := 2) (v := (.pointer (some ⟨s, 0, none⟩))) (some 36) rfl rfl (by kernel_rfl) (by kernel_rfl) (by kernel_rfl) (by kernel_rfl) (by kernel_rfl) (by decide) (fun _ _ _ h => h) (Or.inl ⟨by rfl, fun w' hS => (by go_simp)⟩) S0 ?_
  try simp only [Go.Act.put, Zx, Zy, Zz]
  refine wpL_take (i := 3) (v := (.slice (some ⟨r, off, none⟩) N0 c)) (some 37) rfl rfl (by kernel_rfl) (by kernel_rfl) (by kernel_rfl) (by kernel_rfl) (by kernel_rfl) (by decide) (fun _ _ _ h => h) (Or.inl ⟨by rfl, fun w' hS => (by have z0 := C0 _ hS; go_simp)⟩) S0 ?_
  try simp only [Go.Act.put, Zx, Zy, Zz]
  refine wpL_take (i := 4) (v := (.int .i64 (p : Int))) (some 38) rfl rfl (by kernel_rfl) (by kernel_rfl) (by kernel_rfl) (by kernel_rfl) (by kernel_rfl) (by decide) (fun _ _ _ h => h) (Or.inl ⟨by rfl, fun w' hS => (by go_simp)⟩) S0 ?_
  try simp only [Go.Act.put, Zx, Zy, Zz]
  refine wpL_take (i := 5) (v := (.pointer (some ⟨r, off + p, none⟩))) (some 39) rfl rfl (by kernel_rfl) (by kernel_rfl) (by kernel_rfl) (by kernel_rfl) (by kernel_rfl) (by decide) (fun _ _ _ h => h) (Or.inl ⟨by rfl, fun w' hS => (by go_simp)⟩) S0 ?_
  try simp only [Go.Act.put, Zx, Zy, Zz]
  refine wpL_take (i := 6) (v := (.pointer (some ⟨u.g, 0, none⟩))) (some 40) rfl rfl (by kernel_rfl) (by kernel_rfl) (by kernel_rfl) (by kernel_rfl) (by kernel_rfl) (by decide) (fun _ _ _ h => h) (Or.inl ⟨by rfl, fun w' hS => (by have z0 := CP _ hS; go_simp)⟩) S0 ?_
  try simp only [Go.Act.put, Zx, Zy, Zz]
  refine wpL_take (i := 7) (v := (.int .i64 n)) (some 41) rfl rfl (by kernel_rfl) (by kernel_rfl) (by kernel_rfl) (by kernel_rfl) (by kernel_rfl) (by decide) (fun _ _ _ h => h) (Or.inl ⟨by rfl, fun w' hS => (by go_simp)⟩) S0 ?_
  try simp only [Go.Act.put, Zx, Zy, Zz]
  refine wpL_take (i := 8) (v := (.agg #[.int .u16 k.1, .string k.2])) (some 42) rfl rfl (by kernel_rfl) (by kernel_rfl) (by kernel_rfl) (by kernel_rfl) (by kernel_rfl) (by decide) (fun _ _ _ h => h) (Or.inl ⟨by rfl, fun w' hS => (by have z0 := K0 _ hS; have z1 := K1 _ hS; go_simp)⟩) S0 ?_
  try simp only [Go.Act.put, Zx, Zy, Zz]
  refine wpL_take (i := 9) (v := (.int .i64 x)) (some 43) rfl rfl (by kernel_rfl) (by kernel_rfl) (by kernel_rfl) (by kernel_rfl) (by kernel_rfl) (by decide) (fun _ _ _ h => h) (Or.inl ⟨by rfl, fun w' hS => (by go_simp)⟩) S0 ?_
  try simp only [Go.Act.put, Zx, Zy, Zz]
  refine wpL_take (i := 10) (v := (.int .i64 t)) (some 44) rfl rfl (by kernel_rfl) (by kernel_rfl) (by kernel_rfl) (by kernel_rfl) (by kernel_rfl) (by decide) (fun _ _ _ h => h) (Or.inl ⟨by rfl, fun w' hS => (by go_simp)⟩) S0 ?_
  try simp only [Go.Act.put, Zx, Zy, Zz]
  refine wpL_ready (rs := [11, 15]) (by kernel_rfl) (by simp) ?_
  refine AllL.cons (o := { dst := some 45, op := Op.call { callee := Callee.value (Operand.func 11), args := #[Operand.tmp 40, Operand.tmp 41, Operand.tmp 42, Operand.tmp 43, Operand.tmp 44], argTypes := #[29, 2, 35, 3, 3] }, type := 46, pos := _, after := #[{ on := 6, ground := Ground.data }, { on := 7, ground := Ground.data }, { on := 8, ground := Ground.data }, { on := 9, ground := Ground.data }, { on := 10, ground := Ground.data }], guard := none }) rfl (fun K' hK => ?_) ?_
  ·rw [if_pos (by rfl)]
   go_simp
   refine (HJN.out _ _ Q3.out).mono ?_
   rintro e w2 ⟨a2, m2, c2, rfl, rd2, U2, hU2, hs2, q2⟩
   have HS2 := hid hs2
   have S2 := hs2 _ _ q2 (by simp)
   clear hs2
   have RD := hid rd2
   have HU := hid hU2
   have Q2 := hid q2
   clear rd2 hU2 q2
   refine hK.out _ _ (fun _ => S2) ?_
   clear hK
   try simp only [Go.Act.put, Zx, Zy, Zz]
   refine wpL_take (i := 12) (v := (.tuple #[(.agg #[.int .i64 J.how, .int .i64 J.run, .bool J.bg, .int .i64 J.o.1, .int .i64 J.o.2.1, .int .i64 J.o.2.2.1, .int .i64 J.o.2.2.2, .slice a2 m2 c2]), (.int .i64 0)])) (some 33) rfl rfl (by kernel_rfl) (by kernel_rfl) (by kernel_rfl) (by kernel_rfl) (by kernel_rfl) (by decide) (fun _ _ _ h => h) (Or.inl ⟨by rfl, fun w' hS => (by go_simp)⟩) S2 ?_
   try simp only [Go.Act.put, Zx, Zy, Zz]
   refine wpL_take (i := 13) (v := (.agg #[.int .i64 J.how, .int .i64 J.run, .bool J.bg, .int .i64 J.o.1, .int .i64 J.o.2.1, .int .i64 J.o.2.2.1, .int .i64 J.o.2.2.2, .slice a2 m2 c2])) (some 46) rfl rfl (by kernel_rfl) (by kernel_rfl) (by kernel_rfl) (by kernel_rfl) (by kernel_rfl) (by decide) (fun _ _ _ h => h) (Or.inl ⟨by rfl, fun w' hS => (by go_simp)⟩) S2 ?_
   try simp only [Go.Act.put, Zx, Zy, Zz]
   refine wpL_takeY (i := 14) (v := (.int .i64 0)) (some 47) rfl rfl (by kernel_rfl) (by kernel_rfl) (by kernel_rfl) (by decide) (fun _ _ _ h => h) (Or.inl ⟨by rfl, fun w' hS => (by go_simp)⟩) (fun _ => S2) ?_
   try simp only [Go.Act.put, Zx, Zy, Zz]
   refine wpL_ready (rs := [15]) (by kernel_rfl) (by simp) (AllL.cons (o := { dst := some 14, op := Op.alloc 45, type := 0, pos := _, after := #[], guard := none }) rfl (fun K' hK => ?_) AllL.nil)
   rw [if_pos (by rfl)]
   go_simp
   refine hK.out _ _ (fun _ => (HS2.out _ _ (Q2.out.new jz 45 (by decide)) (by simp))) ?_
   clear hK
   try simp only [Go.Act.put, Zx, Zy, Zz]
   refine wpL_ready (rs := [16]) (by kernel_rfl) (by simp) (AllL.cons (o := { dst := none, op := Op.store 45 (Operand.tmp 14) (Operand.tmp 46), type := 0, pos := _, after := #[{ on := 15, ground := Ground.data }, { on := 13, ground := Ground.data }, { on := 11, ground := Ground.chain }, { on := 0, ground := Ground.phase }, { on := 1, ground := Ground.phase }, { on := 2, ground := Ground.phase }, { on := 3, ground := Ground.phase }, { on := 4, ground := Ground.phase }, { on := 5, ground := Ground.phase }, { on := 6, ground := Ground.phase }, { on := 7, ground := Ground.phase }, { on := 8, ground := Ground.phase }, { on := 9, ground := Ground.phase }, { on := 10, ground := Ground.phase }, { on := 11, ground := Ground.phase }, { on := 12, ground := Ground.phase }, { on := 13, ground := Ground.phase }, { on := 14, ground := Ground.textOnly Departure.lateStores }, { on := 15, ground := Ground.phase }], guard := none }) rfl (fun K' hK => ?_) AllL.nil)
   rw [if_pos (by rfl)]
   have hbj := heap_alloc_new w2 (.cells #[.int .i64 0, .int .i64 0, .bool false, .int .i64 0, .int .i64 0, .int .i64 0, .int .i64 0, .slice none 0 0] 45)
   have d0 := cell_at (j := 0) hbj rfl
   have d1 := cell_at (j := 1) hbj rfl
   have d2 := cell_at (j := 2) hbj rfl
   have d3 := cell_at (j := 3) hbj rfl
   have d4 := cell_at (j := 4) hbj rfl
   have d5 := cell_at (j := 5) hbj rfl
   have d6 := cell_at (j := 6) hbj rfl
   have d7 := cell_at (j := 7) hbj rfl
   have df := froz_at hbj
   go_simp
   obtain ⟨W3, hW3⟩ : ∃ W3, W3 = w2.alloc (.cells #[.int .i64 J.how, .int .i64 J.run, .bool J.bg, .int .i64 J.o.1, .int .i64 J.o.2.1, .int .i64 J.o.2.2.1, .int .i64 J.o.2.2.2, .slice a2 m2 c2] 45) := ⟨_, rfl⟩
   have q3 := Q2.out.new #[.int .i64 J.how, .int .i64 J.run, .bool J.bg, .int .i64 J.o.1, .int .i64 J.o.2.1, .int .i64 J.o.2.2.1, .int .i64 J.o.2.2.2, .slice a2 m2 c2] 45 (by decide)
   have rd3 := RD.out.keep0 ((Touch.refl [] w2).alloc (.cells #[.int .i64 J.how, .int .i64 J.run, .bool J.bg, .int .i64 J.o.1, .int .i64 J.o.2.1, .int .i64 J.o.2.2.1, .int .i64 J.o.2.2.2, .slice a2 m2 c2] 45))
   have hlt := block_lt (Q2.out.at_ (k := w.heap.size + 1) (cs := jz) (t := 45) (by simp))
   rw [← hW3] at q3 rd3 ⊢
   clear hW3
   refine hK.out _ _ (fun h => absurd h (by decide)) ?_
   clear hK
   try simp only [Go.Act.put, Zx, Zy, Zz]
   refine wpL_takeY (i := 17) (v := (.int .i64 0)) (some 15) rfl rfl (by kernel_rfl) (by kernel_rfl) (by kernel_rfl) (by decide) (fun _ _ _ h => h) (Or.inl ⟨by rfl, fun w' hS => (by go_simp)⟩) (fun h => absurd h (by decide)) ?_
   try simp only [Go.Act.put, Zx, Zy, Zz]
   refine wpL_done (by kernel_rfl) ?_ _
   go_wp2
   go_meet
   case rel => exact ⟨_, rfl, rfl, hid ⟨a2, m2, c2, U2, rd3, HU.out, (by simpa using hlt), (by rw [HJB.out]; exact q3)⟩⟩
  refine AllL.cons (o := { dst := some 14, op := Op.alloc 45, type := 0, pos := _, after := #[], guard := none }) rfl (fun K' hK => ?_) ?_
  ·rw [if_pos (by rfl)]
   go_simp
   refine hK.out _ _ (fun _ => (HSG.out _ _ (Q3.out.new jz 45 (by decide)) (by simp))) ?_
   clear hK
   try simp only [Go.Act.put, Zx, Zy, Zz]
   refine wpL_ready (rs := [11]) (by kernel_rfl) (by simp) (AllL.cons (o := { dst := some 45, op := Op.call { callee := Callee.value (Operand.func 11), args := #[Operand.tmp 40, Operand.tmp 41, Operand.tmp 42, Operand.tmp 43, Operand.tmp 44], argTypes := #[29, 2, 35, 3, 3] }, type := 46, pos := _, after := #[{ on := 6, ground := Ground.data }, { on := 7, ground := Ground.data }, { on := 8, ground := Ground.data }, { on := 9, ground := Ground.data }, { on := 10, ground := Ground.data }], guard := none }) rfl (fun K' hK => ?_) AllL.nil)
   rw [if_pos (by rfl)]
   go_simp
   refine (HJN.out _ _ (Q3.out.new jz 45 (by decide))).mono ?_
   rintro e w2 ⟨a2, m2, c2, rfl, rd2, U2, hU2, hs2, q2⟩
   have HS2 := hid hs2
   have S2 := hs2 _ _ q2 (by simp)
   clear hs2
   have RD := hid rd2
   have HU := hid hU2
   have Q2 := hid q2
   clear rd2 hU2 q2
   have hbj := Q2.out.at_ (k := V3.heap.size) (cs := jz) (t := 45) (by simp)
   refine hK.out _ _ (fun _ => S2) ?_
   clear hK
   try simp only [Go.Act.put, Zx, Zy, Zz]
   refine wpL_take (i := 12) (v := (.tuple #[(.agg #[.int .i64 J.how, .int .i64 J.run, .bool J.bg, .int .i64 J.o.1, .int .i64 J.o.2.1, .int .i64 J.o.2.2.1, .int .i64 J.o.2.2.2, .slice a2 m2 c2]), (.int .i64 0)])) (some 33) rfl rfl (by kernel_rfl) (by kernel_rfl) (by kernel_rfl) (by kernel_rfl) (by kernel_rfl) (by decide) (fun _ _ _ h => h) (Or.inl ⟨by rfl, fun w' hS => (by go_simp)⟩) S2 ?_
   try simp only [Go.Act.put, Zx, Zy, Zz]
   refine wpL_take (i := 13) (v := (.agg #[.int .i64 J.how, .int .i64 J.run, .bool J.bg, .int .i64 J.o.1, .int .i64 J.o.2.1, .int .i64 J.o.2.2.1, .int .i64 J.o.2.2.2, .slice a2 m2 c2])) (some 46) rfl rfl (by kernel_rfl) (by kernel_rfl) (by kernel_rfl) (by kernel_rfl) (by kernel_rfl) (by decide) (fun _ _ _ h => h) (Or.inl ⟨by rfl, fun w' hS => (by go_simp)⟩) S2 ?_
   try simp only [Go.Act.put, Zx, Zy, Zz]
   refine wpL_takeY (i := 14) (v := (.int .i64 0)) (some 47) rfl rfl (by kernel_rfl) (by kernel_rfl) (by kernel_rfl) (by decide) (fun _ _ _ h => h) (Or.inl ⟨by rfl, fun w' hS => (by go_simp)⟩) (fun _ => S2) ?_
   try simp only [Go.Act.put, Zx, Zy, Zz]
   refine wpL_ready (rs := [16]) (by kernel_rfl) (by simp) (AllL.cons (o := { dst := none, op := Op.store 45 (Operand.tmp 14) (Operand.tmp 46), type := 0, pos := _, after := #[{ on := 15, ground := Ground.data }, { on := 13, ground := Ground.data }, { on := 11, ground := Ground.chain }, { on := 0, ground := Ground.phase }, { on := 1, ground := Ground.phase }, { on := 2, ground := Ground.phase }, { on := 3, ground := Ground.phase }, { on := 4, ground := Ground.phase }, { on := 5, ground := Ground.phase }, { on := 6, ground := Ground.phase }, { on := 7, ground := Ground.phase }, { on := 8, ground := Ground.phase }, { on := 9, ground := Ground.phase }, { on := 10, ground := Ground.phase }, { on := 11, ground := Ground.phase }, { on := 12, ground := Ground.phase }, { on := 13, ground := Ground.phase }, { on := 14, ground := Ground.textOnly Departure.lateStores }, { on := 15, ground := Ground.phase }], guard := none }) rfl (fun K' hK => ?_) AllL.nil)
   rw [if_pos (by rfl)]
   unfold jz at hbj
   have d0 := cell_at (j := 0) hbj rfl
   have d1 := cell_at (j := 1) hbj rfl
   have d2 := cell_at (j := 2) hbj rfl
   have d3 := cell_at (j := 3) hbj rfl
   have d4 := cell_at (j := 4) hbj rfl
   have d5 := cell_at (j := 5) hbj rfl
   have d6 := cell_at (j := 6) hbj rfl
   have d7 := cell_at (j := 7) hbj rfl
   have df := froz_at hbj
   go_simp
   obtain ⟨W3, hW3⟩ : ∃ W3, W3 = ((((((((w2.setCell ⟨V3.heap.size, 0, none⟩ (.int .i64 J.how)).setCell ⟨V3.heap.size, 1, none⟩ (.int .i64 J.run)).setCell ⟨V3.heap.size, 2, none⟩ (.bool J.bg)).setCell ⟨V3.heap.size, 3, none⟩ (.int .i64 J.o.1)).setCell ⟨V3.heap.size, 4, none⟩ (.int .i64 J.o.2.1)).setCell ⟨V3.heap.size, 5, none⟩ (.int .i64 J.o.2.2.1)).setCell ⟨V3.heap.size, 6, none⟩ (.int .i64 J.o.2.2.2)).setCell ⟨V3.heap.size, 7, none⟩ (.slice a2 m2 c2)) := ⟨_, rfl⟩
   obtain ⟨h6, t6⟩ := st8j hbj (.int .i64 J.how) (.int .i64 J.run) (.bool J.bg) (.int .i64 J.o.1) (.int .i64 J.o.2.1) (.int .i64 J.o.2.2.1) (.int .i64 J.o.2.2.2) (.slice a2 m2 c2)
   rw [← hW3] at h6 t6 ⊢
   have rd3 := RD.out.kbox t6 hbj (by decide)
   have hlt := block_lt (Q3.out.at_ (k := w.heap.size + 1) (cs := jz) (t := 45) (by simp))
   have q3 := Q2.out.set (by intro y hy; simp at hy; rcases hy with rfl | rfl <;> simp <;> (try simp at hlt) <;> omega) t6 h6
   clear hW3 h6 t6
   refine hK.out _ _ (fun h => absurd h (by decide)) ?_
   clear hK
   try simp only [Go.Act.put, Zx, Zy, Zz]
   refine wpL_takeY (i := 17) (v := (.int .i64 0)) (some 15) rfl rfl (by kernel_rfl) (by kernel_rfl) (by kernel_rfl) (by decide) (fun _ _ _ h => h) (Or.inl ⟨by rfl, fun w' hS => (by go_simp)⟩) (fun h => absurd h (by decide)) ?_
   try simp only [Go.Act.put, Zx, Zy, Zz]
   refine wpL_done (by kernel_rfl) ?_ _
   go_wp2
   go_meet
   case rel => exact ⟨_, rfl, rfl, hid ⟨a2, m2, c2, U2, rd3, HU.out, (by simpa using hlt), (by rw [HJB.out]; exact q3)⟩⟩
  exact AllL.nil
 case rest =>
  clear S0 C0 CP K0 K1 HJN HSG Q3
  obtain ⟨b6, rfl, rfl, HC⟩ := hcut
  obtain ⟨Wc, rfl⟩ : ∃ Wc, Wc = wc := ⟨_, rfl⟩
  obtain ⟨a2, m2, c2, U2, rd, hU2, hb6, q2⟩ := HC.out
  clear HC
  have HRD := hid rd
  have HU2 := hid hU2
  have Q2 := hid q2
  have H6 := hid hb6
  have hbj := Q2.out.at_ (k := b6) (cs := jb (.slice a2 m2 c2)) (t := 45) (by simp)
  have d0 : Wc.cell? ⟨b6, 0, none⟩ = some (.int .i64 J.how) := cell_at hbj (by rw [HJB.out]; rfl)
  have cw := Q2.out.cs.c2
  clear rd hU2 hb6 q2 hbj
  go_upto_region 7 with fail
  obtain ⟨bb, hbb⟩ : ∃ bb, bb = decide (J.how = 3 ∨ J.how = 5) := ⟨_, rfl⟩
  have HBB := hid hbb
  clear hbb
  go_cut [55] from 48 to 54 (fun s55 wx => wx = Wc ∧ s55 = .bool bb)
  case first =>
   by_cases h3 : J.how = 3
   ·have h3' : (J.how == 3) = true := by simpa using h3
    have e : decide (J.how = 3 ∨ J.how = 5) = true := by simp [h3]
    have HE := hid (HBB.out.trans e)
    clear e h3
    go_wp2
    go_meet
    case rel => exact ⟨rfl, by rw [HE.out]⟩
   ·have h3' : (J.how == 3) = false := by simpa using h3
    by_cases h5 : J.how = 5
    ·have h5' : (J.how == 5) = true := by simpa using h5
     have e : decide (J.how = 3 ∨ J.how = 5) = true := by simp [h5]
     have HE := hid (HBB.out.trans e)
     clear e h3 h5
     go_wp2
     go_meet
     case rel => exact ⟨rfl, by rw [HE.out]⟩
    ·have h5' : (J.how == 5) = false := by simpa using h5
     have e : decide (J.how = 3 ∨ J.how = 5) = false := by simp [h3, h5]
     have HE := hid (HBB.out.trans e)
     clear e h3 h5
     go_wp2
     go_meet
     case rel => exact ⟨rfl, by rw [HE.out]⟩
  case rest =>
   obtain ⟨ewc, rfl⟩ := hcut
   rw [ewc]
   clear ewc
   by_cases hh : J.how = 3 ∨ J.how = 5
   ·have hbt : bb = true := HBB.out.trans (decide_eq_true hh)
    subst hbt
    clear HBB
    obtain ⟨m, hm, hmk⟩ := Q2.out.r.x.wm
    have hm' : m ≤ M := by
     obtain ⟨m0, h1, h2⟩ := HM0.out
     rw [hmk.sizeS h2 (fun _ _ => rfl)]
     exact h1
    have HMK := hid hmk
    have HFX : Hid (∀ U' w3, U'.map Gu.X = L2 → Hr w F0 w3 s (.slice (some ⟨r, off, none⟩) N0 c) mw mc U' n (kupd (wmap l) x (.int .i64 (p : Int))) G M' → HqE w w3 s F0 L2 n G M') := hid (fun U' w3 e q => HFI.out U' w3 e (by rw [if_pos hh]; exact q))
    have HM2 := hid hm'
    clear hm hm' hmk hh HFI
    go_upto_region 9 with (at_mapUpdate; refine wpList_kset (c := KI) _ rfl _ _ _ 97 rfl 3 Tryz.underlying97 mw m (wmap l) rfl HMK.out (by have := HM2.out; have := HML.out; omega) x rfl HX.out (.int .i64 (p : Int)) rfl ?_; intro ob hM; have q3 := Q2.out.wput (by have := HM2.out; have := HMM.out; split <;> omega) hM; have rd3 := HRD.out.kmap (Q2.out.r.wput (by have := HM2.out; have := HMM.out; split <;> omega) hM).2.1 HMK.out; have Q3 := hid q3; have R3 := hid rd3; clear q3 rd3 hM cw d0)
    obtain ⟨W3, hW3⟩ : ∃ W3, W3 = setBlock Wc mw ob := ⟨_, rfl⟩
    rw [← hW3] at Q3 R3 ⊢
    clear hW3 Q2 HRD
    have q3 := Q3.out.drew
    have r3 := R3.out.keep0 (Touch.refl [] W3).drew
    rw [HJB.out] at q3
    have hbj := q3.at_ (k := b6) (cs := #[.int .i64 J.how, .int .i64 J.run, .bool J.bg, .int .i64 J.o.1, .int .i64 J.o.2.1, .int .i64 J.o.2.2.1, .int .i64 J.o.2.2.2, .slice a2 m2 c2]) (t := 45) (by simp)
    have S9 := And.intro (cell_at (j := 1) (v := .int .i64 J.run) hbj rfl) (cell_at (j := 7) (v := .slice a2 m2 c2) hbj rfl)
    have QD := hid q3
    have RD := hid r3
    clear q3 r3 hbj Q3 R3
    refine wp_region_L (S := fun w' => w'.cell? ⟨b6, 1, none⟩ = some (.int .i64 J.run) ∧ w'.cell? ⟨b6, 7, none⟩ = some (.slice a2 m2 c2)) (st := 11) (by kernel_rfl) ?_
    refine wpL_take (i := 0) (v := (.pointer (some ⟨s, 0, none⟩))) (some 62) rfl rfl (by kernel_rfl) (by kernel_rfl) (by kernel_rfl) (by kernel_rfl) (by kernel_rfl) (by decide) (fun _ _ _ h => h) (Or.inl ⟨by rfl, fun w' hS => (by go_simp)⟩) S9 ?_
    try simp only [Go.Act.put, Zx, Zy, Zz]
    refine wpL_take (i := 1) (v := (.int .i64 (p : Int))) (some 63) rfl rfl (by kernel_rfl) (by kernel_rfl) (by kernel_rfl) (by kernel_rfl) (by kernel_rfl) (by decide) (fun _ _ _ h => h) (Or.inl ⟨by rfl, fun w' hS => (by go_simp)⟩) S9 ?_
    try simp only [Go.Act.put, Zx, Zy, Zz]
    refine wpL_take (i := 2) (v := (.pointer (some ⟨b6, 1, none⟩))) (some 64) rfl rfl (by kernel_rfl) (by kernel_rfl) (by kernel_rfl) (by kernel_rfl) (by kernel_rfl) (by decide) (fun _ _ _ h => h) (Or.inl ⟨by rfl, fun w' hS => (by go_simp)⟩) S9 ?_
    try simp only [Go.Act.put, Zx, Zy, Zz]
    refine wpL_take (i := 3) (v := (.int .i64 J.run)) (some 65) rfl rfl (by kernel_rfl) (by kernel_rfl) (by kernel_rfl) (by kernel_rfl) (by kernel_rfl) (by decide) (fun _ _ _ h => h) (Or.inl ⟨by rfl, fun w' hS => (by have z0 := hS.1; go_simp)⟩) S9 ?_
    try simp only [Go.Act.put, Zx, Zy, Zz]
    refine wpL_takeY (i := 5) (v := (.pointer (some ⟨s, 0, none⟩))) (some 67) rfl rfl (by kernel_rfl) (by kernel_rfl) (by kernel_rfl) (by decide) (fun _ _ _ h => h) (Or.inl ⟨by rfl, fun w' hS => (by go_simp)⟩) (fun _ => S9) ?_
    try simp only [Go.Act.put, Zx, Zy, Zz]
    refine wpL_takeY (i := 6) (v := (.int .i64 (p : Int))) (some 68) rfl rfl (by kernel_rfl) (by kernel_rfl) (by kernel_rfl) (by decide) (fun _ _ _ h => h) (Or.inl ⟨by rfl, fun w' hS => (by go_simp)⟩) (fun _ => S9) ?_
    try simp only [Go.Act.put, Zx, Zy, Zz]
    refine wpL_take (i := 7) (v := (.pointer (some ⟨b6, 7, none⟩))) (some 69) rfl rfl (by kernel_rfl) (by kernel_rfl) (by kernel_rfl) (by kernel_rfl) (by kernel_rfl) (by decide) (fun _ _ _ h => h) (Or.inl ⟨by rfl, fun w' hS => (by go_simp)⟩) S9 ?_
    try simp only [Go.Act.put, Zx, Zy, Zz]
    refine wpL_take (i := 8) (v := (.slice a2 m2 c2)) (some 70) rfl rfl (by kernel_rfl) (by kernel_rfl) (by kernel_rfl) (by kernel_rfl) (by kernel_rfl) (by decide) (fun _ _ _ h => h) (Or.inl ⟨by rfl, fun w' hS => (by have z0 := hS.2; go_simp)⟩) S9 ?_
    try simp only [Go.Act.put, Zx, Zy, Zz]
    refine wpL_ready (rs := [4]) (by kernel_rfl) (by simp) (AllL.cons (o := { dst := some 66, op := Op.call { callee := Callee.value (Operand.func 42), args := #[Operand.tmp 62, Operand.tmp 63, Operand.tmp 65], argTypes := #[25, 3, 3] }, type := 3, pos := _, after := #[{ on := 0, ground := Ground.data }, { on := 1, ground := Ground.data }, { on := 3, ground := Ground.data }], guard := none }) rfl (fun K' hK => ?_) AllL.nil)
    rw [if_pos (by rfl)]
    go_simp
    refine (HNR.out _ _ _ _ _ QD.out).mono ?_
    rintro e w9 ⟨rfl, e9⟩
    rw [e9]
    clear e9 w9
    refine hK.out _ _ (fun _ => S9) ?_
    clear hK
    try simp only [Go.Act.put, Zx, Zy, Zz]
    refine wpL_take (i := 10) (v := (.pointer (some ⟨b6, 1, none⟩))) (some 72) rfl rfl (by kernel_rfl) (by kernel_rfl) (by kernel_rfl) (by kernel_rfl) (by kernel_rfl) (by decide) (fun _ _ _ h => h) (Or.inl ⟨by rfl, fun w' hS => (by go_simp)⟩) S9 ?_
    try simp only [Go.Act.put, Zx, Zy, Zz]
    refine wpL_ready (rs := [9]) (by kernel_rfl) (by simp) (AllL.cons (o := { dst := some 71, op := Op.call { callee := Callee.value (Operand.func 43), args := #[Operand.tmp 67, Operand.tmp 68, Operand.tmp 70], argTypes := #[25, 3, 43] }, type := 43, pos := _, after := #[{ on := 5, ground := Ground.data }, { on := 6, ground := Ground.data }, { on := 8, ground := Ground.data }, { on := 4, ground := Ground.chain }], guard := none }) rfl (fun K' hK => ?_) AllL.nil)
    rw [if_pos (by rfl)]
    go_simp
    refine (HNS.out _ _ _ _ _ QD.out RD.out).mono ?_
    rintro e w4 ⟨a4, m4, c4, rfl, rd4, q4⟩
    have hbj := q4.at_ (k := b6) (cs := #[.int .i64 J.how, .int .i64 J.run, .bool J.bg, .int .i64 J.o.1, .int .i64 J.o.2.1, .int .i64 J.o.2.2.1, .int .i64 J.o.2.2.2, .slice a2 m2 c2]) (t := 45) (by simp)
    have S4 := And.intro (cell_at (j := 1) (v := .int .i64 J.run) hbj rfl) (cell_at (j := 7) (v := .slice a2 m2 c2) hbj rfl)
    have RD4 := hid rd4
    have Q4 := hid q4
    clear rd4 q4
    refine hK.out _ _ (fun _ => S4) ?_
    clear hK
    try simp only [Go.Act.put, Zx, Zy, Zz]
    refine wpL_ready (rs := [11]) (by kernel_rfl) (by simp) (AllL.cons (o := { dst := none, op := Op.store 3 (Operand.tmp 72) (Operand.tmp 66), type := 0, pos := _, after := #[{ on := 10, ground := Ground.data }, { on := 4, ground := Ground.data }, { on := 9, ground := Ground.chain }, { on := 0, ground := Ground.phase }, { on := 1, ground := Ground.phase }, { on := 2, ground := Ground.phase }, { on := 3, ground := Ground.phase }, { on := 4, ground := Ground.phase }, { on := 5, ground := Ground.textOnly Departure.lateStores }, { on := 6, ground := Ground.textOnly Departure.lateStores }, { on := 7, ground := Ground.phase }, { on := 8, ground := Ground.phase }, { on := 9, ground := Ground.textOnly Departure.lateStoresUnsure }], guard := none }) rfl (fun K' hK => ?_) AllL.nil)
    rw [if_pos (by rfl)]
    have x1 := S4.1
    have xf := froz_at hbj
    go_simp
    obtain ⟨W5, hW5⟩ : ∃ W5, W5 = w4.setCell ⟨b6, 1, none⟩ (.int .i64 (numW N0 (p : Int) J.run)) := ⟨_, rfl⟩
    have h5 := bset hbj (i := 1) (.int .i64 (numW N0 (p : Int) J.run))
    have t5 : Touch [b6] w4 W5 := by rw [hW5]; exact (Touch.refl _ _).setCell (Or.inl (by simp)) _
    rw [← hW5] at h5 ⊢
    simp only [List.setIfInBounds_toArray, List.set_cons_succ, List.set_cons_zero] at h5
    have rd5 := RD4.out.kbox t5 hbj (by decide)
    have q5 := Q4.out.set (by intro y hy; simp at hy; have := H6.out; rcases hy with rfl | rfl <;> simp <;> omega) t5 h5
    have RD5 := hid rd5
    have Q5 := hid q5
    clear hW5 t5 x1 xf hbj rd5 q5
    refine hK.out _ _ (fun h => absurd h (by decide)) ?_
    clear hK
    try simp only [Go.Act.put, Zx, Zy, Zz]
    refine wpL_takeY (i := 12) (v := (.pointer (some ⟨b6, 7, none⟩))) (some 73) rfl rfl (by kernel_rfl) (by kernel_rfl) (by kernel_rfl) (by decide) (fun _ _ _ h => h) (Or.inl ⟨by rfl, fun w' hS => (by go_simp)⟩) (fun h => absurd h (by decide)) ?_
    try simp only [Go.Act.put, Zx, Zy, Zz]
    refine wpL_ready (rs := [13]) (by kernel_rfl) (by simp) (AllL.cons (o := { dst := none, op := Op.store 43 (Operand.tmp 73) (Operand.tmp 71), type := 0, pos := _, after := #[{ on := 12, ground := Ground.data }, { on := 9, ground := Ground.data }, { on := 11, ground := Ground.chain }, { on := 0, ground := Ground.phase }, { on := 1, ground := Ground.phase }, { on := 2, ground := Ground.phase }, { on := 3, ground := Ground.phase }, { on := 4, ground := Ground.phase }, { on := 5, ground := Ground.phase }, { on := 6, ground := Ground.phase }, { on := 7, ground := Ground.phase }, { on := 8, ground := Ground.phase }, { on := 9, ground := Ground.phase }, { on := 10, ground := Ground.phase }, { on := 11, ground := Ground.phase }], guard := none }) rfl (fun K' hK => ?_) AllL.nil)
    rw [if_pos (by rfl)]
    have x7 := cell_at (j := 7) h5 rfl
    have xf := froz_at h5
    go_simp
    obtain ⟨W6, hW6⟩ : ∃ W6, W6 = W5.setCell ⟨b6, 7, none⟩ (.slice a4 m4 c4) := ⟨_, rfl⟩
    have h6 := bset h5 (i := 7) (.slice a4 m4 c4)
    have t6 : Touch [b6] W5 W6 := by rw [hW6]; exact (Touch.refl _ _).setCell (Or.inl (by simp)) _
    rw [← hW6] at h6 ⊢
    simp only [List.setIfInBounds_toArray, List.set_cons_succ, List.set_cons_zero] at h6
    have rd6 := RD5.out.kbox t6 h5 (by decide)
    have q6 := Q5.out.set (by intro y hy; simp at hy; have := H6.out; rcases hy with rfl | rfl <;> simp <;> omega) t6 h6
    clear hW6 t6 x7 xf
    refine hK.out _ _ (fun h => absurd h (by decide)) ?_
    clear hK
    try simp only [Go.Act.put, Zx, Zy, Zz]
    refine wpL_done (by kernel_rfl) ?_ _
    have hbj := q6.at_ (k := w.heap.size + 1) (cs := jz) (t := 45) (by simp)
    have RD6 := hid rd6
    have Q6 := hid q6
    have e0 := cell_at (j := 0) h6 rfl
    have e1 := cell_at (j := 1) h6 rfl
    have e2 := cell_at (j := 2) h6 rfl
    have e3 := cell_at (j := 3) h6 rfl
    have e4 := cell_at (j := 4) h6 rfl
    have e5 := cell_at (j := 5) h6 rfl
    have e6 := cell_at (j := 6) h6 rfl
    have e7 := cell_at (j := 7) h6 rfl
    have HBJ := hid hbj
    clear rd6 q6 h6 h5 S9 S4
    unfold jz at hbj
    have d0 := cell_at (j := 0) hbj rfl
    have d1 := cell_at (j := 1) hbj rfl
    have d2 := cell_at (j := 2) hbj rfl
    have d3 := cell_at (j := 3) hbj rfl
    have d4 := cell_at (j := 4) hbj rfl
    have d5 := cell_at (j := 5) hbj rfl
    have d6 := cell_at (j := 6) hbj rfl
    have d7 := cell_at (j := 7) hbj rfl
    have df := froz_at hbj
    clear hbj
    go_wp2
    exact bodyPost_ret (v := .tuple #[.agg #[.int .i64 J.how, .int .i64 (numW N0 (p : Int) J.run), .bool J.bg, .int .i64 J.o.1, .int .i64 J.o.2.1, .int .i64 J.o.2.2.1, .int .i64 J.o.2.2.2, .slice a4 m4 c4], .int .i64 0]) (by simp [results, Tryz.results10, go_sem, d0, d1, d2, d3, d4, d5, d6, d7]) rfl ⟨_, rfl, ⟨RD6.out.kbox (((((((((Touch.refl _ _).setCell (Or.inl (by simp)) _).setCell (Or.inl (by simp)) _).setCell (Or.inl (by simp)) _).setCell (Or.inl (by simp)) _).setCell (Or.inl (by simp)) _).setCell (Or.inl (by simp)) _).setCell (Or.inl (by simp)) _).setCell (Or.inl (by simp)) _) HBJ.out (by decide), _, _, _, rfl⟩, HFX.out _ _ HU2.out (Q6.out.out (k := w.heap.size + 1) (cs := jz) (t := 45) (by simp) (((((((((Touch.refl _ _).setCell (Or.inl (by simp)) _).setCell (Or.inl (by simp)) _).setCell (Or.inl (by simp)) _).setCell (Or.inl (by simp)) _).setCell (Or.inl (by simp)) _).setCell (Or.inl (by simp)) _).setCell (Or.inl (by simp)) _).setCell (Or.inl (by simp)) _))⟩
   ·have hbt : bb = false := HBB.out.trans (decide_eq_false hh)
    subst hbt
    clear HBB
    have HFX : Hid (∀ U' w3, U'.map Gu.X = L2 → Hr w F0 w3 s (.slice (some ⟨r, off, none⟩) N0 c) mw mc U' n (wmap l) G M' → HqE w w3 s F0 L2 n G M') := hid (fun U' w3 e q => HFI.out U' w3 e (by rw [if_neg hh]; exact q))
    have Q3 := Q2
    have R3 := HRD
    obtain ⟨W3, hW3⟩ : ∃ W3, W3 = Wc := ⟨_, rfl⟩
    rw [← hW3] at Q3 R3 ⊢
    clear hW3 Q2 HRD hh HFI cw d0
    go_upto_region 9 with fail
    have q3 := Q3.out.drew
    have r3 := R3.out.keep0 (Touch.refl [] W3).drew
    rw [HJB.out] at q3
    have hbj := q3.at_ (k := b6) (cs := #[.int .i64 J.how, .int .i64 J.run, .bool J.bg, .int .i64 J.o.1, .int .i64 J.o.2.1, .int .i64 J.o.2.2.1, .int .i64 J.o.2.2.2, .slice a2 m2 c2]) (t := 45) (by simp)
    have S9 := And.intro (cell_at (j := 1) (v := .int .i64 J.run) hbj rfl) (cell_at (j := 7) (v := .slice a2 m2 c2) hbj rfl)
    have QD := hid q3
    have RD := hid r3
    clear q3 r3 hbj Q3 R3
    refine wp_region_L (S := fun w' => w'.cell? ⟨b6, 1, none⟩ = some (.int .i64 J.run) ∧ w'.cell? ⟨b6, 7, none⟩ = some (.slice a2 m2 c2)) (st := 11) (by kernel_rfl) ?_
    refine wpL_take (i := 0) (v := (.pointer (some ⟨s, 0, none⟩))) (some 62) rfl rfl (by kernel_rfl) (by kernel_rfl) (by kernel_rfl) (by kernel_rfl) (by kernel_rfl) (by decide) (fun _ _ _ h => h) (Or.inl ⟨by rfl, fun w' hS => (by go_simp)⟩) S9 ?_
    try simp only [Go.Act.put, Zx, Zy, Zz]
    refine wpL_take (i := 1) (v := (.int .i64 (p : Int))) (some 63) rfl rfl (by kernel_rfl) (by kernel_rfl) (by kernel_rfl) (by kernel_rfl) (by kernel_rfl) (by decide) (fun _ _ _ h => h) (Or.inl ⟨by rfl, fun w' hS => (by go_simp)⟩) S9 ?_
    try simp only [Go.Act.put, Zx, Zy, Zz]
    refine wpL_take (i := 2) (v := (.pointer (some ⟨b6, 1, none⟩))) (some 64) rfl rfl (by kernel_rfl) (by kernel_rfl) (by kernel_rfl) (by kernel_rfl) (by kernel_rfl) (by decide) (fun _ _ _ h => h) (Or.inl ⟨by rfl, fun w' hS => (by go_simp)⟩) S9 ?_
    try simp only [Go.Act.put, Zx, Zy, Zz]
    refine wpL_take (i := 3) (v := (.int .i64 J.run)) (some 65) rfl rfl (by kernel_rfl) (by kernel_rfl) (by kernel_rfl) (by kernel_rfl) (by kernel_rfl) (by decide) (fun _ _ _ h => h) (Or.inl ⟨by rfl, fun w' hS => (by have z0 := hS.1; go_simp)⟩) S9 ?_
    try simp only [Go.Act.put, Zx, Zy, Zz]
    refine wpL_takeY (i := 5) (v := (.pointer (some ⟨s, 0, none⟩))) (some 67) rfl rfl (by kernel_rfl) (by kernel_rfl) (by kernel_rfl) (by decide) (fun _ _ _ h => h) (Or.inl ⟨by rfl, fun w' hS => (by go_simp)⟩) (fun _ => S9) ?_
    try simp only [Go.Act.put, Zx, Zy, Zz]
    refine wpL_takeY (i := 6) (v := (.int .i64 (p : Int))) (some 68) rfl rfl (by kernel_rfl) (by kernel_rfl) (by kernel_rfl) (by decide) (fun _ _ _ h => h) (Or.inl ⟨by rfl, fun w' hS => (by go_simp)⟩) (fun _ => S9) ?_
    try simp only [Go.Act.put, Zx, Zy, Zz]
    refine wpL_take (i := 7) (v := (.pointer (some ⟨b6, 7, none⟩))) (some 69) rfl rfl (by kernel_rfl) (by kernel_rfl) (by kernel_rfl) (by kernel_rfl) (by kernel_rfl) (by decide) (fun _ _ _ h => h) (Or.inl ⟨by rfl, fun w' hS => (by go_simp)⟩) S9 ?_
    try simp only [Go.Act.put, Zx, Zy, Zz]
    refine wpL_take (i := 8) (v := (.slice a2 m2 c2)) (some 70) rfl rfl (by kernel_rfl) (by kernel_rfl) (by kernel_rfl) (by kernel_rfl) (by kernel_rfl) (by decide) (fun _ _ _ h => h) (Or.inl ⟨by rfl, fun w' hS => (by have z0 := hS.2; go_simp)⟩) S9 ?_
    try simp only [Go.Act.put, Zx, Zy, Zz]
    refine wpL_ready (rs := [4]) (by kernel_rfl) (by simp) (AllL.cons (o := { dst := some 66, op := Op.call { callee := Callee.value (Operand.func 42), args := #[Operand.tmp 62, Operand.tmp 63, Operand.tmp 65], argTypes := #[25, 3, 3] }, type := 3, pos := _, after := #[{ on := 0, ground := Ground.data }, { on := 1, ground := Ground.data }, { on := 3, ground := Ground.data }], guard := none }) rfl (fun K' hK => ?_) AllL.nil)
    rw [if_pos (by rfl)]
    go_simp
    refine (HNR.out _ _ _ _ _ QD.out).mono ?_
    rintro e w9 ⟨rfl, e9⟩
    rw [e9]
    clear e9 w9
    refine hK.out _ _ (fun _ => S9) ?_
    clear hK
    try simp only [Go.Act.put, Zx, Zy, Zz]
    refine wpL_take (i := 10) (v := (.pointer (some ⟨b6, 1, none⟩))) (some 72) rfl rfl (by kernel_rfl) (by kernel_rfl) (by kernel_rfl) (by kernel_rfl) (by kernel_rfl) (by decide) (fun _ _ _ h => h) (Or.inl ⟨by rfl, fun w' hS => (by go_simp)⟩) S9 ?_
    try simp only [Go.Act.put, Zx, Zy, Zz]
    refine wpL_ready (rs := [9]) (by kernel_rfl) (by simp) (AllL.cons (o := { dst := some 71, op := Op.call { callee := Callee.value (Operand.func 43), args := #[Operand.tmp 67, Operand.tmp 68, Operand.tmp 70], argTypes := #[25, 3, 43] }, type := 43, pos := _, after := #[{ on := 5, ground := Ground.data }, { on := 6, ground := Ground.data }, { on := 8, ground := Ground.data }, { on := 4, ground := Ground.chain }], guard := none }) rfl (fun K' hK => ?_) AllL.nil)
    rw [if_pos (by rfl)]
    go_simp
    refine (HNS.out _ _ _ _ _ QD.out RD.out).mono ?_
    rintro e w4 ⟨a4, m4, c4, rfl, rd4, q4⟩
    have hbj := q4.at_ (k := b6) (cs := #[.int .i64 J.how, .int .i64 J.run, .bool J.bg, .int .i64 J.o.1, .int .i64 J.o.2.1, .int .i64 J.o.2.2.1, .int .i64 J.o.2.2.2, .slice a2 m2 c2]) (t := 45) (by simp)
    have S4 := And.intro (cell_at (j := 1) (v := .int .i64 J.run) hbj rfl) (cell_at (j := 7) (v := .slice a2 m2 c2) hbj rfl)
    have RD4 := hid rd4
    have Q4 := hid q4
    clear rd4 q4
    refine hK.out _ _ (fun _ => S4) ?_
    clear hK
    try simp only [Go.Act.put, Zx, Zy, Zz]
    refine wpL_ready (rs := [11]) (by kernel_rfl) (by simp) (AllL.cons (o := { dst := none, op := Op.store 3 (Operand.tmp 72) (Operand.tmp 66), type := 0, pos := _, after := #[{ on := 10, ground := Ground.data }, { on := 4, ground := Ground.data }, { on := 9, ground := Ground.chain }, { on := 0, ground := Ground.phase }, { on := 1, ground := Ground.phase }, { on := 2, ground := Ground.phase }, { on := 3, ground := Ground.phase }, { on := 4, ground := Ground.phase }, { on := 5, ground := Ground.textOnly Departure.lateStores }, { on := 6, ground := Ground.textOnly Departure.lateStores }, { on := 7, ground := Ground.phase }, { on := 8, ground := Ground.phase }, { on := 9, ground := Ground.textOnly Departure.lateStoresUnsure }], guard := none }) rfl (fun K' hK => ?_) AllL.nil)
    rw [if_pos (by rfl)]
    have x1 := S4.1
    have xf := froz_at hbj
    go_simp
    obtain ⟨W5, hW5⟩ : ∃ W5, W5 = w4.setCell ⟨b6, 1, none⟩ (.int .i64 (numW N0 (p : Int) J.run)) := ⟨_, rfl⟩
    have h5 := bset hbj (i := 1) (.int .i64 (numW N0 (p : Int) J.run))
    have t5 : Touch [b6] w4 W5 := by rw [hW5]; exact (Touch.refl _ _).setCell (Or.inl (by simp)) _
    rw [← hW5] at h5 ⊢
    simp only [List.setIfInBounds_toArray, List.set_cons_succ, List.set_cons_zero] at h5
    have rd5 := RD4.out.kbox t5 hbj (by decide)
    have q5 := Q4.out.set (by intro y hy; simp at hy; have := H6.out; rcases hy with rfl | rfl <;> simp <;> omega) t5 h5
    have RD5 := hid rd5
    have Q5 := hid q5
    clear hW5 t5 x1 xf hbj rd5 q5
    refine hK.out _ _ (fun h => absurd h (by decide)) ?_
    clear hK
    try simp only [Go.Act.put, Zx, Zy, Zz]
    refine wpL_takeY (i := 12) (v := (.pointer (some ⟨b6, 7, none⟩))) (some 73) rfl rfl (by kernel_rfl) (by kernel_rfl) (by kernel_rfl) (by decide) (fun _ _ _ h => h) (Or.inl ⟨by rfl, fun w' hS => (by go_simp)⟩) (fun h => absurd h (by decide)) ?_
    try simp only [Go.Act.put, Zx, Zy, Zz]
    refine wpL_ready (rs := [13]) (by kernel_rfl) (by simp) (AllL.cons (o := { dst := none, op := Op.store 43 (Operand.tmp 73) (Operand.tmp 71), type := 0, pos := _, after := #[{ on := 12, ground := Ground.data }, { on := 9, ground := Ground.data }, { on := 11, ground := Ground.chain }, { on := 0, ground := Ground.phase }, { on := 1, ground := Ground.phase }, { on := 2, ground := Ground.phase }, { on := 3, ground := Ground.phase }, { on := 4, ground := Ground.phase }, { on := 5, ground := Ground.phase }, { on := 6, ground := Ground.phase }, { on := 7, ground := Ground.phase }, { on := 8, ground := Ground.phase }, { on := 9, ground := Ground.phase }, { on := 10, ground := Ground.phase }, { on := 11, ground := Ground.phase }], guard := none }) rfl (fun K' hK => ?_) AllL.nil)
    rw [if_pos (by rfl)]
    have x7 := cell_at (j := 7) h5 rfl
    have xf := froz_at h5
    go_simp
    obtain ⟨W6, hW6⟩ : ∃ W6, W6 = W5.setCell ⟨b6, 7, none⟩ (.slice a4 m4 c4) := ⟨_, rfl⟩
    have h6 := bset h5 (i := 7) (.slice a4 m4 c4)
    have t6 : Touch [b6] W5 W6 := by rw [hW6]; exact (Touch.refl _ _).setCell (Or.inl (by simp)) _
    rw [← hW6] at h6 ⊢
    simp only [List.setIfInBounds_toArray, List.set_cons_succ, List.set_cons_zero] at h6
    have rd6 := RD5.out.kbox t6 h5 (by decide)
    have q6 := Q5.out.set (by intro y hy; simp at hy; have := H6.out; rcases hy with rfl | rfl <;> simp <;> omega) t6 h6
    clear hW6 t6 x7 xf
    refine hK.out _ _ (fun h => absurd h (by decide)) ?_
    clear hK
    try simp only [Go.Act.put, Zx, Zy, Zz]
    refine wpL_done (by kernel_rfl) ?_ _
    have hbj := q6.at_ (k := w.heap.size + 1) (cs := jz) (t := 45) (by simp)
    have RD6 := hid rd6
    have Q6 := hid q6
    have e0 := cell_at (j := 0) h6 rfl
    have e1 := cell_at (j := 1) h6 rfl
    have e2 := cell_at (j := 2) h6 rfl
    have e3 := cell_at (j := 3) h6 rfl
    have e4 := cell_at (j := 4) h6 rfl
    have e5 := cell_at (j := 5) h6 rfl
    have e6 := cell_at (j := 6) h6 rfl
    have e7 := cell_at (j := 7) h6 rfl
    have HBJ := hid hbj
    clear rd6 q6 h6 h5 S9 S4
    unfold jz at hbj
    have d0 := cell_at (j := 0) hbj rfl
    have d1 := cell_at (j := 1) hbj rfl
    have d2 := cell_at (j := 2) hbj rfl
    have d3 := cell_at (j := 3) hbj rfl
    have d4 := cell_at (j := 4) hbj rfl
    have d5 := cell_at (j := 5) hbj rfl
    have d6 := cell_at (j := 6) hbj rfl
    have d7 := cell_at (j := 7) hbj rfl
    have df := froz_at hbj
    clear hbj
    go_wp2
    exact bodyPost_ret (v := .tuple #[.agg #[.int .i64 J.how, .int .i64 (numW N0 (p : Int) J.run), .bool J.bg, .int .i64 J.o.1, .int .i64 J.o.2.1, .int .i64 J.o.2.2.1, .int .i64 J.o.2.2.2, .slice a4 m4 c4], .int .i64 0]) (by simp [results, Tryz.results10, go_sem, d0, d1, d2, d3, d4, d5, d6, d7]) rfl ⟨_, rfl, ⟨RD6.out.kbox (((((((((Touch.refl _ _).setCell (Or.inl (by simp)) _).setCell (Or.inl (by simp)) _).setCell (Or.inl (by simp)) _).setCell (Or.inl (by simp)) _).setCell (Or.inl (by simp)) _).setCell (Or.inl (by simp)) _).setCell (Or.inl (by simp)) _).setCell (Or.inl (by simp)) _) HBJ.out (by decide), _, _, _, rfl⟩, HFX.out _ _ HU2.out (Q6.out.out (k := w.heap.size + 1) (cs := jz) (t := 45) (by simp) (((((((((Touch.refl _ _).setCell (Or.inl (by simp)) _).setCell (Or.inl (by simp)) _).setCell (Or.inl (by simp)) _).setCell (Or.inl (by simp)) _).setCell (Or.inl (by simp)) _).setCell (Or.inl (by simp)) _).setCell (Or.inl (by simp)) _).setCell (Or.inl (by simp)) _))⟩
end
end Go.Proofs.YtllchnancjgijaaGreat
