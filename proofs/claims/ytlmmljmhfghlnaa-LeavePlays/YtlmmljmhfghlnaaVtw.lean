/- The contract of takeAway; no conditions but those that it states. -/
import Derived.Test.YtlmmljmhfghlnaaVpl
namespace Go.Proofs.Ytlmmljmhfghlnaa
open Go.RowKit Go.Maps Go.ChangeMaps
set_option linter.unusedVariables false
set_option linter.unusedSimpArgs false
theorem zeroPC (w : World) : (zeroValue 66).run Try.prog w = .ok (.pointer none) w := by kernel_rfl
theorem find_congr {X : Type} {p r : X → Bool} : ∀ {l : List X}, (∀ x ∈ l, p x = r x) → l.find? p = l.find? r
  | [], _ => rfl
  | a :: l, h => by
    rw [List.find?_cons, List.find?_cons, h a (by simp), find_congr (fun x hx => h x (by simp [hx]))]
/-- A caller is one chair's. -/
theorem cmap_at {CH : List Chr} (nc : (CH.map (fun p => p.2.1)).Nodup) {q : Nat} {x : Se} (hq : (q, x) ∈ CH) : cmap CH x.1 = some (PT q) := by
  unfold cmap
  induction CH with
  | nil => cases hq
  | cons a r ih =>
    rw [List.map_cons, List.nodup_cons] at nc
    rw [List.find?_cons]
    rcases List.mem_cons.1 hq with e | e
    · subst e
      simp
    · have hne : ¬ a.2.1 = x.1 := fun e2 => nc.1 (List.mem_map.2 ⟨(q, x), e, e2.symm⟩)
      simp only [hne, decide_false]
      exact ih nc.2 e
theorem caller_uniq {CH : List Chr} (nc : (CH.map (fun p => p.2.1)).Nodup) {p1 p2 : Chr} (hp1 : p1 ∈ CH) (hp2 : p2 ∈ CH) (e : p1.2.1 = p2.2.1) : p1.1 = p2.1 := by
  have h1 := cmap_at nc (q := p1.1) (x := p1.2) hp1
  have h2 := cmap_at nc (q := p2.1) (x := p2.2) hp2
  rw [e, h2] at h1
  simp only [PT, Option.some.injEq, Value.pointer.injEq, Addr.mk.injEq, and_true] at h1
  exact h1.symm
theorem cmap_del {CH : List Chr} (nc : (CH.map (fun p => p.2.1)).Nodup) (nd : (CH.map Prod.fst).Nodup) {q : Nat} {x : Se} (hq : (q, x) ∈ CH) (c : Int) : kdel (cmap CH) x.1 c = cmap (delC q CH) c := by
  unfold kdel
  by_cases e : c = x.1
  · subst e
    rw [if_pos rfl]
    unfold cmap
    rw [List.find?_eq_none.2 (fun p hp => ?_)]
    · rfl
    · obtain ⟨h1, h2⟩ := List.mem_filter.1 hp
      simp only [decide_eq_true_eq] at h2 ⊢
      exact fun e => h2 (caller_uniq nc h1 hq e)
  · rw [if_neg e]
    unfold cmap delC
    rw [List.find?_filter]
    congr 1
    refine find_congr (fun p hp => ?_)
    by_cases e2 : p.2.1 = c
    · have : p.1 ≠ q := fun e3 => by
        have := ch_uniq nd hp hq e3
        rw [this] at e2
        exact e e2.symm
      simp [e2, this]
    · simp [e2]
theorem del_len {CH : List Chr} (nd : (CH.map Prod.fst).Nodup) {q : Nat} {x : Se} (hq : (q, x) ∈ CH) : (delC q CH).length = CH.length - 1 := by
  unfold delC
  induction CH with
  | nil => cases hq
  | cons a r ih =>
    rw [List.map_cons, List.nodup_cons] at nd
    rcases List.mem_cons.1 hq with e | e
    · subst e
      rw [List.filter_cons_of_neg (by simp), List.filter_eq_self.2 (fun p hp => ?_)]
      · simp
      · simp only [decide_eq_true_eq]
        exact fun e => nd.1 (List.mem_map.2 ⟨p, hp, e⟩)
    · have hne : a.1 ≠ q := fun e2 => nd.1 (List.mem_map.2 ⟨(q, x), e, e2.symm⟩)
      rw [List.filter_cons_of_pos (by simpa using hne), List.length_cons, ih nd.2 e, List.length_cons]
      have := List.length_pos_of_mem e
      omega
section
variable {w : World} {s nr : Nat} {mc mr mk : Option Nat} {CH : List Chr} {G : List Int}
def TkE (w w' : World) (s : Nat) (mc mr mk : Option Nat) (nr : Nat) (CH : List Chr) (G : List Int) (q : Nat) : Prop := ∃ n, n ≤ nr ∧ Sm w' s mc mr mk n (delC q CH) G ∧ Touch (fpS s mc mr mk CH) w w'
/-- The caller has its chair no more. -/
theorem tk_chair {W : World} {b d q : Nat} {x : Se} (h : Sm W s (some b) (some d) mk nr CH G) (hx : Wf x) (hq : (q, x) ∈ CH) (nc : (CH.map (fun p => p.2.1)).Nodup) :
    ∃ o, (∀ ty, (Builtin.delete_ #[56, 3] ty #[.map (some b), .int .i64 x.1]).run Try.prog W = .ok (.tuple #[]) (setBlock W b o)) ∧ Md (setBlock W b o) s b d mk nr CH CH (delC q CH) G 0 Zt ∧ Touch [b] W (setBlock W b o) := by
  obtain ⟨b', d', e1, e2, hbd, mb, md⟩ : ∃ b' d', some b = some b' ∧ some d = some d' ∧ b' ≠ d' ∧ MapK KI W b' CH.length (cmap CH) ∧ MapK KN W d' nr (rmap CH) := by
    rcases h.cm with ⟨h1, _⟩ | h1
    · cases h1
    · exact h1
  cases e1
  cases e2
  obtain ⟨o, o1, o2⟩ := mb.del (t := 56) Try.underlying56 (k := x.1) hx.1 0
  rw [cmap_at nc hq] at o2
  simp only [Option.isSome_some, if_true] at o2
  have tb : Touch [b] W (setBlock W b o) := touch_setBlock (Touch.refl _ _) (Or.inl (by simp)) o
  have hsb : s ≠ b := fun e => by
    obtain ⟨es, cl, h3⟩ := mb.kind
    have := h.hb; rw [e, h3] at this; cases this
  refine ⟨o, fun ty => o1, ⟨tb.keep h.hb (by simpa using hsb), hbd, ?_, ⟨nr, Nat.le_refl _, (md.keep tb (by simp; exact fun e => hbd e.symm)).congr (fun z _ => (rmid0 _ _).symm)⟩, ?_, fun c hc => ?_, ?_⟩, tb⟩
  · rw [del_len h.nb hq]
    exact o2.congr (fun c _ => cmap_del nc h.nb hq c)
  · rcases h.km with h3 | ⟨c, h3, h4⟩
    · exact Or.inl h3
    · exact Or.inr ⟨c, h3, h4.keep tb (by simp; exact fun e => (h.kc c h3).1 (by rw [e]))⟩
  · have := h.kc c hc
    exact ⟨fun e => this.1 (by rw [e]), fun e => this.2 (by rw [e])⟩
  · obtain ⟨A, B, h3, h4⟩ := h.lk
    refine ⟨A, B, h3.keep tb (fun p hp e2 => ?_), fun k _ hk => absurd hk (Nat.not_lt_zero _), fun k hk _ => ⟨trivial, fun n => h4 k hk n⟩⟩
    simp only [List.mem_singleton] at e2
    obtain ⟨es, cl, h5⟩ := mb.kind
    have := h3 p hp
    rw [e2, h5] at this
    cases this
theorem tk_fin {wr : World} {b d q : Nat} (h : Md wr s b d mk nr CH CH (delC q CH) G 3 Zt) (nd : (CH.map Prod.fst).Nodup) : ∃ n', n' ≤ nr ∧ Sm wr s (some b) (some d) mk n' (delC q CH) G := by
  obtain ⟨n', h1, h2⟩ := h.rm
  obtain ⟨A, B, h3, h4, _⟩ := h.lk
  exact ⟨n', h1, h.hb, Or.inr ⟨b, d, rfl, rfl, h.bd, h.cm, h2.congr (fun z _ => rmid3 _ _)⟩, h.km, fun c hc => ⟨fun e => (h.kc c hc).1 (by cases e; rfl), fun e => (h.kc c hc).2 (by cases e; rfl)⟩, ⟨A, B, fun p hp => h3 p (List.mem_filter.1 hp).1, fun k hk n => h4 k hk hk n⟩, nd.sublist (List.filter_sublist.map _)⟩
set_option maxHeartbeats 8000000 in
set_option maxRecDepth 100000 in
theorem take_ (h : Sm w s mc mr mk nr CH G) (q : Nat) (x : Se) (hq : (q, x) ∈ CH) (nc : (CH.map (fun p => p.2.1)).Nodup) (hx : Wf x) (hnr : nr < maxLen) : Calls Try.prog 34 #[PT s, sv x] w fun e w' => e = .returned (.tuple #[]) ∧ TkE w w' s mc mr mk nr CH G q := by
  obtain ⟨b, d, rfl, rfl, mb⟩ : ∃ b d, mc = some b ∧ mr = some d ∧ MapK KI w b CH.length (cmap CH) := by
    rcases h.cm with ⟨_, _, h1⟩ | ⟨b, d, h1, h2, _, h3, _⟩
    · rw [h1] at hq; cases hq
    · exact ⟨b, d, h1, h2, h3⟩
  obtain ⟨V, hV⟩ : ∃ V, V = w.alloc (.cells #[.int .i64 x.1, .int .i64 x.2.1, .int .i64 x.2.2] 33) := ⟨_, rfl⟩
  have tv : Touch [] w V := by rw [hV]; exact (Touch.refl _ _).alloc _
  have hvb : V.heap[w.heap.size]? = some (.cells #[.int .i64 x.1, .int .i64 x.2.1, .int .i64 x.2.2] 33 (0, 0)) := by rw [hV]; exact heap_alloc_new w _
  have h1 := h.keep0 tv
  have hlk : ∀ n, (Instr.lookup 56 (.map (some b)) (.int .i64 x.1) false).run Try.prog (V.drewN n) = .ok (.pointer (some ⟨q, 0, none⟩)) (V.drewN n) := fun n => by
    have := ((mb.keep tv (by simp)).keep ((Touch.refl [] V).drewN n) (by simp)).look (t := 56) Try.underlying56 (zeroPC _) (k := x.1) hx.1
    rw [cmap_at nc hq] at this
    exact this
  have HTK : Hid (∀ W, Touch [] V W → ∃ o, (∀ ty, (Builtin.delete_ #[56, 3] ty #[.map (some b), .int .i64 x.1]).run Try.prog W = .ok (.tuple #[]) (setBlock W b o)) ∧ Md (setBlock W b o) s b d mk nr CH CH (delC q CH) G 0 Zt ∧ Touch [b] W (setBlock W b o)) := hid (fun W t => tk_chair (h1.keep0 t) hx hq nc)
  have HBX : Hid (∀ w', Touch [] V w' → w'.heap[w.heap.size]? = some (.cells #[.int .i64 x.1, .int .i64 x.2.1, .int .i64 x.2.2] 33 (0, 0))) := hid (fun w' t => t.keep hvb (by simp))
  have HSB : Hid (b ≠ w.heap.size) := hid (by have := mb.lt; omega)
  have HFIN : Hid (∀ W, Md W s b d mk nr CH CH (delC q CH) G 3 Zt → Touch (fpM s b d mk CH) w W → TkE w W s (some b) (some d) mk nr CH G q) := hid (fun W m t => by
    obtain ⟨n', e1, e2⟩ := tk_fin m h.nb
    exact ⟨n', e1, e2, t⟩)
  have S0 : ∀ w', Touch [] V w' → w'.cell? ⟨s, 0, none⟩ = some (.map (some b)) := fun w' t => (h1.keep0 t).cell.1
  have X0 : ∀ w', Touch [] V w' → w'.cell? ⟨w.heap.size, 0, none⟩ = some (.int .i64 x.1) := fun w' t => cell_at (t.keep hvb (by simp)) rfl
  have c0 := S0 V (Touch.refl _ _)
  have b0 := X0 V (Touch.refl _ _)
  have HTV := hid tv
  have HNX := hid hx
  have HNR := hid hnr
  have HND := hid h.nb
  have HQ := hid hq
  clear h h1 hx nc tv hvb mb hnr hq
  unfold PT sv
  go_enter Try.func34, Try.ntmps34
  go_upto_region 1 with fail
  rw [← hV]
  clear hV
  go_quiet (fail)
  have tq : Touch [] V (V.drewN nq) := (Touch.refl _ _).drewN _
  obtain ⟨V0, hV0⟩ : ∃ V0, V0 = V.drewN nq := ⟨_, rfl⟩
  rw [← hV0] at tq ⊢
  clear hV0 hlk c0 b0
  go_upto_region 2 with fail
  have k0 : Touch [] V V0.drew := tq.drew
  obtain ⟨o, U1, M0, T0⟩ := HTK.out _ k0
  have U1' := U1 0
  obtain ⟨W2, hW2⟩ : ∃ W2, W2 = setBlock V0.drew b o := ⟨_, rfl⟩
  rw [← hW2] at U1' M0 T0
  have BX2 : W2.heap[w.heap.size]? = some (.cells #[.int .i64 x.1, .int .i64 x.2.1, .int .i64 x.2.2] 33 (0, 0)) := T0.keep (HBX.out _ k0) (by simp; exact fun e => HSB.out e.symm)
  have HM0 := hid M0
  have HT0 : Hid (Touch (fpM s b d mk CH) w W2) := hid (((HTV.out.trans' k0).mono (fun _ e => by cases e)).trans T0 (fun z hz => Or.inl (mem_fpS.2 (Or.inr (Or.inl (by simp at hz; rw [hz]))))))
  clear M0 T0 U1 HTK HBX HTV
  refine wp_region_L (S := fun w' => Touch [] V w') (st := 6) (by kernel_rfl) ?_
  refine wpL_takeY (i := 0) (v := (.pointer (some ⟨s, 0, none⟩))) (some 15) rfl rfl (by kernel_rfl) (by kernel_rfl) (by kernel_rfl) (by decide) (fun _ _ _ h => h) (Or.inl ⟨by rfl, fun w' hS => (by go_simp)⟩) (fun _ => k0) ?_
  try simp only [Go.Act.put, List.setIfInBounds_toArray, List.set_cons_zero, List.set_cons_succ]
  refine wpL_takeY (i := 1) (v := (.pointer (some ⟨s, 0, none⟩))) (some 16) rfl rfl (by kernel_rfl) (by kernel_rfl) (by kernel_rfl) (by decide) (fun _ _ _ h => h) (Or.inl ⟨by rfl, fun w' hS => (by go_simp)⟩) (fun _ => k0) ?_
  try simp only [Go.Act.put, List.setIfInBounds_toArray, List.set_cons_zero, List.set_cons_succ]
  refine wpL_takeY (i := 2) (v := (.pointer (some ⟨s, 0, none⟩))) (some 17) rfl rfl (by kernel_rfl) (by kernel_rfl) (by kernel_rfl) (by decide) (fun _ _ _ h => h) (Or.inl ⟨by rfl, fun w' hS => (by go_simp)⟩) (fun _ => k0) ?_
  try simp only [Go.Act.put, List.setIfInBounds_toArray, List.set_cons_zero, List.set_cons_succ]
  refine wpL_take (i := 3) (v := (.map (some b))) (some 18) rfl rfl (by kernel_rfl) (by kernel_rfl) (by kernel_rfl) (by kernel_rfl) (by kernel_rfl) (by decide) (fun _ _ _ h => h) (Or.inl ⟨by rfl, fun w' hS => (by have z0 := S0 _ hS; go_simp)⟩) k0 ?_
  try simp only [Go.Act.put, List.setIfInBounds_toArray, List.set_cons_zero, List.set_cons_succ]
  refine wpL_takeY (i := 4) (v := (.pointer (some ⟨w.heap.size, 0, none⟩))) (some 19) rfl rfl (by kernel_rfl) (by kernel_rfl) (by kernel_rfl) (by decide) (fun _ _ _ h => h) (Or.inl ⟨by rfl, fun w' hS => (by go_simp)⟩) (fun _ => k0) ?_
  try simp only [Go.Act.put, List.setIfInBounds_toArray, List.set_cons_zero, List.set_cons_succ]
  refine wpL_take (i := 5) (v := (.int .i64 x.1)) (some 20) rfl rfl (by kernel_rfl) (by kernel_rfl) (by kernel_rfl) (by kernel_rfl) (by kernel_rfl) (by decide) (fun _ _ _ h => h) (Or.inl ⟨by rfl, fun w' hS => (by have z0 := X0 _ hS; go_simp)⟩) k0 ?_
  try simp only [Go.Act.put, List.setIfInBounds_toArray, List.set_cons_zero, List.set_cons_succ]
  refine wpL_ready (rs := [6]) (by kernel_rfl) (by simp) (AllL.cons (o := { dst := none, op := Op.call { callee := Callee.builtin Builtin.delete, args := #[Operand.tmp 18, Operand.tmp 20], argTypes := #[56, 3] }, type := 0, pos := _, after := #[{ on := 3, ground := Ground.data }, { on := 5, ground := Ground.data }], guard := none }) rfl (fun K' hK => ?_) AllL.nil)
  rw [if_pos (by rfl)]
  go_simp
  rw [← hW2]
  clear hW2 U1' k0 tq
  refine hK.out _ _ (fun h => absurd h (by decide)) ?_
  clear hK
  try simp only [Go.Act.put, List.setIfInBounds_toArray, List.set_cons_zero, List.set_cons_succ]
  refine wpL_done (by kernel_rfl) ?_ _
  have HNM := hid (names_ W2 x)
  have b0 := cell_at (j := 0) BX2 rfl
  have b1 := cell_at (j := 1) BX2 rfl
  have b2 := cell_at (j := 2) BX2 rfl
  clear BX2 S0 X0
  unfold sv nm3 at HNM
  go_wp2_with (go_at_call 39; refine HNM.out.mono ?_; rintro e w3 ⟨rfl, t3⟩; have T3 := hid t3; clear t3)
  have HM3 := hid (HM0.out.keep0 T3.out)
  have HT3 : Hid (Touch (fpM s b d mk CH) w w3) := hid (HT0.out.trans T3.out (fun _ e => by cases e))
  clear b0 b1 b2 HM0 HT0 T3 HNM
  go_loopw [23] (fun s23 wr => ∃ i : Nat, s23 = .int .i64 (i : Int) ∧ Hid (i ≤ 3 ∧ Md wr s b d mk nr CH CH (delC q CH) G i Zt ∧ Touch (fpM s b d mk CH) w wr)) (fun i _ => 3 - (intOf i).toNat)
  case atStart => exact ⟨0, rfl, Nat.zero_le _, HM3.out, HT3.out⟩
  case round =>
    clear HM3 HT3
    obtain ⟨i, rfl, HR⟩ := hrel
    by_cases hi : i < 3
    · have zi : (i : Int) < 3 := by omega
      have qx := fun w => ixN w x.2.1 x.2.2 x rfl rfl hi
      obtain ⟨m, hm⟩ : ∃ m, m = num i x := ⟨_, rfl⟩
      have HMW : Hid (W64 m) := hid (by rw [hm]; exact num_wf HNX.out i)
      rw [← hm] at qx
      obtain ⟨V1, hV1⟩ : ∃ V1, V1 = wr.alloc (.cells #[.int .i64 (i : Int), .int .i64 m] 73) := ⟨_, rfl⟩
      have tv1 : Touch [] wr V1 := by rw [hV1]; exact (Touch.refl _ _).alloc _
      have hnb : V1.heap[wr.heap.size]? = some (.cells #[.int .i64 (i : Int), .int .i64 m] 73 (0, 0)) := by rw [hV1]; exact heap_alloc_new wr _
      have M1 : ∀ w', Touch [] V1 w' → w'.cell? ⟨s, 1, none⟩ = some (.map (some d)) := fun w' t => (HR.out.2.1.keep0 (tv1.trans' t)).cell
      have B0 : ∀ w', Touch [] V1 w' → w'.cell? ⟨wr.heap.size, 0, none⟩ = some (.int .i64 (i : Int)) := fun w' t => cell_at (t.keep hnb (by simp)) rfl
      have B1 : ∀ w', Touch [] V1 w' → w'.cell? ⟨wr.heap.size, 1, none⟩ = some (.int .i64 m) := fun w' t => cell_at (t.keep hnb (by simp)) rfl
      have L0 : ∀ w', Touch [] V1 w' → (Instr.lookup 57 (.map (some d)) (.agg #[.int .i64 (i : Int), .int .i64 m]) false).run Try.prog w' = .ok (.agg #[pv (rowOf i m CH).head?, pv (lastO none (rowOf i m CH))]) w' := fun w' t => (HR.out.2.1.keep0 (tv1.trans' t)).lookR hi HMW.out
      obtain ⟨f, hf⟩ : ∃ f, pv (rowOf i m CH).head? = .pointer f := ⟨_, rfl⟩
      obtain ⟨l, hl⟩ : ∃ l, pv (lastO none (rowOf i m CH)) = .pointer l := ⟨_, rfl⟩
      rw [hf, hl] at L0
      have HAD : Hid (∀ V2, Touch [] V1 V2 → V2.heap[V1.heap.size]? = some (.cells #[.pointer f, .pointer l] 82 (0, 0)) → Calls Try.prog 40 #[PT V1.heap.size, .int .i64 (i : Int), PT q] V2 fun e W => e = .returned (.tuple #[]) ∧ ∃ f l, Rb W s d wr.heap.size V1.heap.size i m f l ∧ ∀ W3, W3 = W.drew → ∃ o, ((f = none ∧ ∀ ty, (Builtin.delete_ #[57, 73] ty #[.map (some d), .agg #[.int .i64 (i : Int), .int .i64 m]]).run Try.prog W3 = .ok (.tuple #[]) (setBlock W3 d o)) ∨
          ((∃ z, f = some z) ∧ (Instr.mapUpdate 57 (.map (some d)) (.agg #[.int .i64 (i : Int), .int .i64 m]) (.agg #[pv f, pv l])).run Try.prog W3 = .ok () (setBlock W3 d o))) ∧ Md (setBlock W3 d o) s b d mk nr CH CH (delC q CH) G (i + 1) Zt ∧ Touch (fpM s b d mk CH) w (setBlock W3 d o)) := hid (fun V2 t hr => by
        have t2 := tv1.trans' t
        have hr' : V2.heap[V1.heap.size]? = some (.cells #[pv (rowOf i m CH).head?, pv (lastO none (rowOf i m CH))] 82 (0, 0)) := by rw [hf, hl]; exact hr
        obtain ⟨A, B, hLK⟩ := HR.out.2.1.lk
        have hLK2 : LkM V2 CH CH (delC q CH) i Zt A B := ⟨hLK.1.keep t2 (fun _ _ e => by cases e), hLK.2⟩
        obtain ⟨y1, y2, y3, y4⟩ := take_ready hLK2 hi HQ.out HND.out
        refine (rem_ V2 V1.heap.size q i hi _ _ x _ _ hr' y1 (fun p hp => (y2 p hp).1) (fun p hp => (y3 p hp).1) y4).mono ?_
        rintro e W ⟨rfl, hE⟩
        subst hm
        obtain ⟨f2, l2, z1, z2⟩ := take_step HR.out.2.1 hLK hi HNX.out HQ.out HND.out HNR.out t2 (t.keep hnb (by simp)) tv1.size hr' hE
        refine ⟨rfl, f2, l2, z1, fun W3 e3 => ?_⟩
        obtain ⟨o, z3, z4, z5⟩ := z2 W3 e3
        exact ⟨o, z3, z4, HR.out.2.2.trans z5 (fun z hz => Or.inl hz)⟩)
      have HI := hid (And.intro hi HR.out.1)
      have kv0 : Touch [] V1 V1.drew := (Touch.refl _ _).drew
      clear hf hl hnb tv1 HMW HR hi hm
      unfold PT at HAD
      go_upto_region 6 with fail
      rw [← hV1]
      clear hV1 qx
      refine wp_region_L (S := fun w' => Touch [] V1 w') (st := 7) (by kernel_rfl) ?_
      refine wpL_take (i := 0) (v := (.pointer (some ⟨s, 0, none⟩))) (some 26) rfl rfl (by kernel_rfl) (by kernel_rfl) (by kernel_rfl) (by kernel_rfl) (by kernel_rfl) (by decide) (fun _ _ _ h => h) (Or.inl ⟨by rfl, fun w' hS => (by go_simp)⟩) kv0 ?_
      try simp only [Go.Act.put, List.setIfInBounds_toArray, List.set_cons_zero, List.set_cons_succ]
      refine wpL_take (i := 1) (v := (.pointer (some ⟨s, 0, none⟩))) (some 27) rfl rfl (by kernel_rfl) (by kernel_rfl) (by kernel_rfl) (by kernel_rfl) (by kernel_rfl) (by decide) (fun _ _ _ h => h) (Or.inl ⟨by rfl, fun w' hS => (by go_simp)⟩) kv0 ?_
      try simp only [Go.Act.put, List.setIfInBounds_toArray, List.set_cons_zero, List.set_cons_succ]
      refine wpL_take (i := 2) (v := (.pointer (some ⟨s, 1, none⟩))) (some 28) rfl rfl (by kernel_rfl) (by kernel_rfl) (by kernel_rfl) (by kernel_rfl) (by kernel_rfl) (by decide) (fun _ _ _ h => h) (Or.inl ⟨by rfl, fun w' hS => (by go_simp)⟩) kv0 ?_
      try simp only [Go.Act.put, List.setIfInBounds_toArray, List.set_cons_zero, List.set_cons_succ]
      refine wpL_take (i := 3) (v := (.map (some d))) (some 29) rfl rfl (by kernel_rfl) (by kernel_rfl) (by kernel_rfl) (by kernel_rfl) (by kernel_rfl) (by decide) (fun _ _ _ h => h) (Or.inl ⟨by rfl, fun w' hS => (by have z0 := M1 _ hS; go_simp)⟩) kv0 ?_
      try simp only [Go.Act.put, List.setIfInBounds_toArray, List.set_cons_zero, List.set_cons_succ]
      refine wpL_take (i := 4) (v := (.agg #[.int .i64 (i : Int), .int .i64 m])) (some 30) rfl rfl (by kernel_rfl) (by kernel_rfl) (by kernel_rfl) (by kernel_rfl) (by kernel_rfl) (by decide) (fun _ _ _ h => h) (Or.inl ⟨by rfl, fun w' hS => (by have z0 := B0 _ hS; have z1 := B1 _ hS; go_simp)⟩) kv0 ?_
      try simp only [Go.Act.put, List.setIfInBounds_toArray, List.set_cons_zero, List.set_cons_succ]
      refine wpL_take (i := 5) (v := (.agg #[.pointer f, .pointer l])) (some 31) rfl rfl (by kernel_rfl) (by kernel_rfl) (by kernel_rfl) (by kernel_rfl) (by kernel_rfl) (by decide) (fun _ _ _ h => h) (Or.inl ⟨by rfl, fun w' hS => (by have z0 := L0 _ hS; go_simp)⟩) kv0 ?_
      try simp only [Go.Act.put, List.setIfInBounds_toArray, List.set_cons_zero, List.set_cons_succ]
      refine wpL_ready (rs := [6]) (by kernel_rfl) (by simp) (AllL.cons (o := { dst := some 7, op := Op.alloc 82, type := 0, pos := _, after := #[], guard := none }) rfl (fun K' hK => ?_) AllL.nil)
      rw [if_pos (by rfl)]
      go_simp
      refine hK.out _ _ (fun _ => ((Touch.refl _ _).alloc _).drew) ?_
      clear hK
      try simp only [Go.Act.put, List.setIfInBounds_toArray, List.set_cons_zero, List.set_cons_succ]
      refine wpL_ready (rs := [7]) (by kernel_rfl) (by simp) (AllL.cons (o := { dst := none, op := Op.store 82 (Operand.tmp 7) (Operand.tmp 31), type := 0, pos := _, after := #[{ on := 6, ground := Ground.data }, { on := 5, ground := Ground.data }, { on := 0, ground := Ground.phase }, { on := 1, ground := Ground.phase }, { on := 2, ground := Ground.phase }, { on := 3, ground := Ground.phase }, { on := 4, ground := Ground.phase }, { on := 5, ground := Ground.phase }, { on := 6, ground := Ground.phase }], guard := none }) rfl (fun K' hK => ?_) AllL.nil)
      rw [if_pos (by rfl)]
      go_simp
      refine hK.out _ _ (fun h => absurd h (by decide)) ?_
      clear hK
      try simp only [Go.Act.put, List.setIfInBounds_toArray, List.set_cons_zero, List.set_cons_succ]
      refine wpL_done (by kernel_rfl) ?_ _
      have k5 : Touch [] V1 (V1.alloc (.cells #[.pointer f, .pointer l] 82)).drew := ((Touch.refl _ _).alloc _).drew
      have HK := hid (HAD.out _ k5 (heap_alloc_new V1 _))
      have b0 := B0 _ k5
      clear M1 B0 B1 L0 kv0 k5 HAD
      generalize (V1.alloc (.cells #[.pointer f, .pointer l] 82)).drew = V2 at *
      go_upto_region 8 with (go_at_call 40; refine HK.out.mono ?_; rintro e W ⟨rfl, f2, l2, z1, z2⟩; have HZ := hid (And.intro z1 z2); clear z1 z2 b0)
      obtain ⟨z1, z2⟩ := HZ.out
      obtain ⟨s1, n0, n1, r0, r1⟩ := z1
      obtain ⟨l3, hl3⟩ : ∃ l3, pv l2 = .pointer l3 := ⟨_, rfl⟩
      obtain ⟨o3, hz, z3, z4⟩ := z2 _ rfl
      have HM4 := hid z3
      have HT4 := hid z4
      obtain ⟨W5, hW5⟩ : ∃ W5, W5 = setBlock W.drew d o3 := ⟨_, rfl⟩
      rw [← hW5] at hz HM4 HT4
      rw [hl3] at r1 hz
      have k6 : Touch [] W W.drew := (Touch.refl _ _).drew
      clear HK HZ z2 z3 z4 hl3
      rcases hz with ⟨rfl, z2⟩ | ⟨⟨z, rfl⟩, z2⟩
      · have rr := r0 W (Touch.refl _ _)
        replace z2 := z2 0
        unfold pv at rr
        simp only [Option.map_none] at rr
        go_upto_region 9 with fail
        clear rr
        refine wp_region_L (S := fun w' => Touch [] W w') (st := 5) (by kernel_rfl) ?_
        refine wpL_takeY (i := 0) (v := (.pointer (some ⟨s, 0, none⟩))) (some 39) rfl rfl (by kernel_rfl) (by kernel_rfl) (by kernel_rfl) (by decide) (fun _ _ _ h => h) (Or.inl ⟨by rfl, fun w' hS => (by go_simp)⟩) (fun _ => k6) ?_
        try simp only [Go.Act.put, List.setIfInBounds_toArray, List.set_cons_zero, List.set_cons_succ]
        refine wpL_takeY (i := 1) (v := (.pointer (some ⟨s, 0, none⟩))) (some 40) rfl rfl (by kernel_rfl) (by kernel_rfl) (by kernel_rfl) (by decide) (fun _ _ _ h => h) (Or.inl ⟨by rfl, fun w' hS => (by go_simp)⟩) (fun _ => k6) ?_
        try simp only [Go.Act.put, List.setIfInBounds_toArray, List.set_cons_zero, List.set_cons_succ]
        refine wpL_takeY (i := 2) (v := (.pointer (some ⟨s, 1, none⟩))) (some 41) rfl rfl (by kernel_rfl) (by kernel_rfl) (by kernel_rfl) (by decide) (fun _ _ _ h => h) (Or.inl ⟨by rfl, fun w' hS => (by go_simp)⟩) (fun _ => k6) ?_
        try simp only [Go.Act.put, List.setIfInBounds_toArray, List.set_cons_zero, List.set_cons_succ]
        refine wpL_take (i := 3) (v := (.map (some d))) (some 42) rfl rfl (by kernel_rfl) (by kernel_rfl) (by kernel_rfl) (by kernel_rfl) (by kernel_rfl) (by decide) (fun _ _ _ h => h) (Or.inl ⟨by rfl, fun w' hS => (by have z0 := s1 _ hS; go_simp)⟩) k6 ?_
        try simp only [Go.Act.put, List.setIfInBounds_toArray, List.set_cons_zero, List.set_cons_succ]
        refine wpL_take (i := 4) (v := (.agg #[.int .i64 (i : Int), .int .i64 m])) (some 43) rfl rfl (by kernel_rfl) (by kernel_rfl) (by kernel_rfl) (by kernel_rfl) (by kernel_rfl) (by decide) (fun _ _ _ h => h) (Or.inl ⟨by rfl, fun w' hS => (by have z0 := n0 _ hS; have z1 := n1 _ hS; go_simp)⟩) k6 ?_
        try simp only [Go.Act.put, List.setIfInBounds_toArray, List.set_cons_zero, List.set_cons_succ]
        refine wpL_ready (rs := [5]) (by kernel_rfl) (by simp) (AllL.cons (o := { dst := none, op := Op.call { callee := Callee.builtin Builtin.delete, args := #[Operand.tmp 42, Operand.tmp 43], argTypes := #[57, 73] }, type := 0, pos := _, after := #[{ on := 3, ground := Ground.data }, { on := 4, ground := Ground.data }], guard := none }) rfl (fun K' hK => ?_) AllL.nil)
        rw [if_pos (by rfl)]
        go_simp
        rw [← hW5]
        clear hW5 z2 k6 s1 n0 n1 r0 r1
        refine hK.out _ _ (fun h => absurd h (by decide)) ?_
        clear hK
        try simp only [Go.Act.put, List.setIfInBounds_toArray, List.set_cons_zero, List.set_cons_succ]
        refine wpL_done (by kernel_rfl) ?_ _
        go_wp2
        go_roundw
        case rel => exact ⟨i + 1, by go_num, by have := HI.out.1; omega, HM4.out, HT4.out⟩
        case measure => simp [intOf]; have := HI.out.1; omega
      · rw [pv_some] at r0 z2
        unfold PT at r0 z2
        have rr := r0 W (Touch.refl _ _)
        go_upto_region 10 with fail
        clear rr
        refine wp_region_L (S := fun w' => Touch [] W w') (st := 6) (by kernel_rfl) ?_
        refine wpL_take (i := 0) (v := (.pointer (some ⟨s, 0, none⟩))) (some 44) rfl rfl (by kernel_rfl) (by kernel_rfl) (by kernel_rfl) (by kernel_rfl) (by kernel_rfl) (by decide) (fun _ _ _ h => h) (Or.inl ⟨by rfl, fun w' hS => (by go_simp)⟩) k6 ?_
        try simp only [Go.Act.put, List.setIfInBounds_toArray, List.set_cons_zero, List.set_cons_succ]
        refine wpL_take (i := 1) (v := (.pointer (some ⟨s, 0, none⟩))) (some 45) rfl rfl (by kernel_rfl) (by kernel_rfl) (by kernel_rfl) (by kernel_rfl) (by kernel_rfl) (by decide) (fun _ _ _ h => h) (Or.inl ⟨by rfl, fun w' hS => (by go_simp)⟩) k6 ?_
        try simp only [Go.Act.put, List.setIfInBounds_toArray, List.set_cons_zero, List.set_cons_succ]
        refine wpL_take (i := 2) (v := (.pointer (some ⟨s, 1, none⟩))) (some 46) rfl rfl (by kernel_rfl) (by kernel_rfl) (by kernel_rfl) (by kernel_rfl) (by kernel_rfl) (by decide) (fun _ _ _ h => h) (Or.inl ⟨by rfl, fun w' hS => (by go_simp)⟩) k6 ?_
        try simp only [Go.Act.put, List.setIfInBounds_toArray, List.set_cons_zero, List.set_cons_succ]
        refine wpL_take (i := 3) (v := (.map (some d))) (some 47) rfl rfl (by kernel_rfl) (by kernel_rfl) (by kernel_rfl) (by kernel_rfl) (by kernel_rfl) (by decide) (fun _ _ _ h => h) (Or.inl ⟨by rfl, fun w' hS => (by have z0 := s1 _ hS; go_simp)⟩) k6 ?_
        try simp only [Go.Act.put, List.setIfInBounds_toArray, List.set_cons_zero, List.set_cons_succ]
        refine wpL_take (i := 4) (v := (.agg #[.int .i64 (i : Int), .int .i64 m])) (some 48) rfl rfl (by kernel_rfl) (by kernel_rfl) (by kernel_rfl) (by kernel_rfl) (by kernel_rfl) (by decide) (fun _ _ _ h => h) (Or.inl ⟨by rfl, fun w' hS => (by have z0 := n0 _ hS; have z1 := n1 _ hS; go_simp)⟩) k6 ?_
        try simp only [Go.Act.put, List.setIfInBounds_toArray, List.set_cons_zero, List.set_cons_succ]
        refine wpL_take (i := 5) (v := (.agg #[.pointer (some ⟨z, 0, none⟩), .pointer l3])) (some 49) rfl rfl (by kernel_rfl) (by kernel_rfl) (by kernel_rfl) (by kernel_rfl) (by kernel_rfl) (by decide) (fun _ _ _ h => h) (Or.inl ⟨by rfl, fun w' hS => (by have z0 := r0 _ hS; have z1 := r1 _ hS; go_simp)⟩) k6 ?_
        try simp only [Go.Act.put, List.setIfInBounds_toArray, List.set_cons_zero, List.set_cons_succ]
        refine wpL_ready (rs := [6]) (by kernel_rfl) (by simp) (AllL.cons (o := { dst := none, op := Op.mapUpdate 57 (Operand.tmp 47) (Operand.tmp 48) (Operand.tmp 49), type := 0, pos := _, after := #[{ on := 3, ground := Ground.data }, { on := 4, ground := Ground.data }, { on := 5, ground := Ground.data }, { on := 0, ground := Ground.phase }, { on := 1, ground := Ground.phase }, { on := 2, ground := Ground.phase }, { on := 3, ground := Ground.phase }, { on := 4, ground := Ground.phase }, { on := 5, ground := Ground.phase }], guard := none }) rfl (fun K' hK => ?_) AllL.nil)
        rw [if_pos (by rfl)]
        go_simp
        rw [← hW5]
        clear hW5 z2 k6 s1 n0 n1 r0 r1
        refine hK.out _ _ (fun h => absurd h (by decide)) ?_
        clear hK
        try simp only [Go.Act.put, List.setIfInBounds_toArray, List.set_cons_zero, List.set_cons_succ]
        refine wpL_done (by kernel_rfl) ?_ _
        go_wp2
        go_roundw
        case rel => exact ⟨i + 1, by go_num, by have := HI.out.1; omega, HM4.out, HT4.out⟩
        case measure => simp [intOf]; have := HI.out.1; omega
    · have HZ : Hid (TkE w wr s (some b) (some d) mk nr CH G q) := hid (by
        obtain ⟨h1, h2, h3⟩ := HR.out
        obtain rfl : i = 3 := by omega
        exact HFIN.out wr h2 h3)
      have zi : 3 ≤ (i : Int) := by omega
      clear HR
      go_wp2
      go_end0
      exact ⟨rfl, HZ.out⟩
end
end Go.Proofs.Ytlmmljmhfghlnaa
