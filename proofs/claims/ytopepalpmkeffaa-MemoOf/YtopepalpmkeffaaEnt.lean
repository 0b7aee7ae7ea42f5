/- The contract of enter: a key that is not there is the one that was used last behind it; there are fewer than a hundred thousand. -/
import Derived.Test.YtopepalpmkeffaaOds
namespace Go.Proofs.Ytopepalpmkeffaa
open Go.RowKit Go.Sort Go.Maps Go.ChangeMaps Go.WideMaps
set_option linter.unusedVariables false
set_option linter.unusedSimpArgs false
theorem maxLen_big {n : Nat} (h : n ≤ 100000) : n < maxLen := by unfold maxLen; omega
theorem MapAt.ne_block {w : World} {b n : Nat} {g : K → Option Value} (hm : MapAt w b n g) {q : Nat} {cs : Array Value} {t : TypeId} {fr : Nat × Nat} (h : w.heap[q]? = some (.cells cs t fr)) : b ≠ q := fun e => by
  obtain ⟨D, ⟨es, cl, hb, _⟩, _⟩ := hm
  rw [← e, hb] at h
  simp at h
theorem Mf.push {f : K → Option Value} {L : List E} (h : Mf f L) {k : K} {p : Nat} (hn : ¬ k ∈ L.map Prod.fst) : Mf (upd f k (PT p)) (L ++ [(k, p)]) := by
  refine ⟨fun e he => ?_, fun j hj => ?_⟩
  · simp only [List.mem_append, List.mem_singleton] at he
    rcases he with he | rfl
    · unfold upd
      rw [if_neg (fun e' => hn (by rw [← e']; exact List.mem_map.2 ⟨e, he, rfl⟩))]
      exact h.1 e he
    · simp [upd]
  · simp only [List.map_append, List.mem_append, List.map_cons, List.map_nil, List.mem_singleton, not_or] at hj
    unfold upd
    rw [if_neg hj.2]
    exact h.2 j hj.1
theorem Ln.setMap {w : World} {o b : Nat} {most : Int} {m : Option Nat} {L : List E} (h : Ln w o most m L) (hb : ∀ k ∈ fpL o L, k ≠ b) (ob : Obj) : Ln (setBlock w b ob) o most m L :=
  ⟨h.oc.keep (setBlock_other _ _ _ (hb o (by simp [fpL]))), h.sg.keep (fun e he => setBlock_other _ _ _ (hb _ (by simp only [fpL, List.mem_cons, List.mem_map]; exact Or.inr ⟨e, he, rfl⟩))), h.nb⟩
theorem Ln.cells {w : World} {o : Nat} {most : Int} {m : Option Nat} {L : List E} (h : Ln w o most m L) : ∀ k ∈ fpL o L, ∃ cs t fr, w.heap[k]? = some (.cells cs t fr) := fun k hk => by
  simp only [fpL, List.mem_cons, List.mem_map] at hk
  rcases hk with rfl | ⟨e, he, rfl⟩
  · exact ⟨_, _, _, h.oc⟩
  · obtain ⟨x, y, hx⟩ := h.sg.mem e he
    exact ⟨_, _, _, hx⟩
def EnQ (w : World) (o : Nat) (m : Option Nat) (most : Int) (L : List E) (k : K) (w' : World) : Prop :=
  ∃ m' p, Od w' o m' most (L ++ [(k, p)]) ∧ Touch (fp o m L) w w' ∧ Nf w (fp o m L) (fp o m' (L ++ [(k, p)]))
/-- Behind the map's turn the place is put behind all others. -/
theorem enter_end {w V : World} {o b : Nat} {m : Option Nat} {most : Int} {L : List E} {k : K} {p n : Nat} {f : K → Option Value} (hL : Ln V o most (some b) L) (hn : Nd V p k none none) (hb : MapAt V b n f) (hk : Ok k) (hN : n = L.length) (hf : Mf f L) (hnk : ¬ k ∈ L.map Prod.fst) (hnd : (L.map Prod.fst).Nodup) (hok : ∀ e ∈ L, Ok e.1) (hp : w.heap.size ≤ p) (hpf : ∀ e ∈ L, e.2 ≠ p) (hbn : m = some b ∨ w.heap.size ≤ b) (ht : Touch (fp o m L) w V)
    {ob : Obj} (hs : MapAt (setBlock V.drew b ob) b (if (f k).isSome then n else n + 1) (upd f k (PT p))) :
    Calls Try.prog 68 #[LP o, PT p] (setBlock V.drew b ob) fun x w' => x = .returned (.tuple #[]) ∧ EnQ w o m most L k w' := by
  have hbl : ∀ q ∈ fpL o L, q ≠ b := fun q hq => by
    obtain ⟨cs, t, fr, hc⟩ := hL.cells q hq
    exact Ne.symm (hb.ne_block hc)
  have hbp : p ≠ b := Ne.symm (hb.ne_block hn)
  have L2 : Ln (setBlock V.drew b ob) o most (some b) L := Ln.setMap (w := V.drew) (hL.heap rfl) hbl ob
  have N2 : Nd (setBlock V.drew b ob) p k none none := Nd.keep (w := V) hn (setBlock_other _ _ _ hbp)
  refine (add35 _ o most (some b) L (k, p) none none L2 N2 hpf).mono ?_
  rintro x w' ⟨rfl, hL', ht'⟩
  refine ⟨rfl, some b, p, ⟨hL', ?_, ?_, Or.inr ⟨b, upd f k (PT p), rfl, ?_, hf.push hnk⟩⟩, ?_, ?_⟩
  · rw [List.map_append, List.nodup_append]
    refine ⟨hnd, by simp, fun x hx y hy => ?_⟩
    simp only [List.map_cons, List.map_nil, List.mem_singleton] at hy
    subst hy
    exact fun e => hnk (e ▸ hx)
  · intro e he
    simp only [List.mem_append, List.mem_singleton] at he
    rcases he with he | rfl
    · exact hok e he
    · exact hk
  · have : (L ++ [(k, p)]).length = if (f k).isSome then n else n + 1 := by
      rw [hf.2 k hnk]; simp [hN]
    rw [this]
    refine hs.kept (ht'.block b hs.lt ?_)
    simp only [List.mem_cons, not_or]
    exact ⟨Ne.symm hbp, fun h => hbl b h rfl⟩
  · have h1 : Touch (fp o m L) w (setBlock V.drew b ob) := touch_setBlock ht.drew (hbn.elim (fun e => Or.inl (by simp [fp, e])) Or.inr) ob
    refine h1.trans ht' (fun i hi => ?_)
    simp only [List.mem_cons] at hi
    rcases hi with rfl | hi
    · exact Or.inr hp
    · exact Or.inl (fpL_fp hi)
  · intro i hi
    simp only [fp, List.map_append, List.mem_cons, List.mem_append, Option.toList_some, List.map_cons, List.map_nil, List.mem_singleton, List.not_mem_nil, or_false] at hi ⊢
    rcases hi with hi | hi | hi
    · exact Or.inl (Or.inl hi)
    · rw [hi]
      rcases hbn with rfl | e
      · exact Or.inl (Or.inr (Or.inl (by simp)))
      · exact Or.inr e
    · rcases hi with hi | hi
      · exact Or.inl (Or.inr (Or.inr hi))
      · rw [hi]
        exact Or.inr hp
set_option maxHeartbeats 2000000 in
theorem enter30_some (w : World) (o b : Nat) (most : Int) (L : List E) (k : K) (hk : Ok k) (hnk : ¬ k ∈ L.map Prod.fst) (hlen : L.length < 100000) (h : Od w o (some b) most L) :
    Calls Try.prog 70 #[PT o, kv k] w fun x w' => x = .returned (.tuple #[]) ∧ EnQ w o (some b) most L k w' := by
  obtain ⟨b', f, hbb, hm, hf⟩ : ∃ b' f, some b = some b' ∧ MapAt w b' L.length f ∧ Mf f L := by
    rcases h.mp with ⟨e, _⟩ | e
    · cases e
    · exact e
  cases hbb
  have c1 := h.ln.oc.c1
  have ho := h.ln.oc.lt
  obtain ⟨V, hV⟩ : ∃ V, V = (w.alloc (.cells #[.int .u16 k.1, .string k.2] 39)).alloc (.cells #[.int .u16 k.1, .string k.2, .pointer none, .pointer none] 146) := ⟨_, rfl⟩
  have TV : Touch [] w V := by rw [hV]; exact ((Touch.refl _ _).alloc _).alloc _
  have hmV : MapAt V b L.length f := hm.kept (TV.block b hm.lt (by simp))
  have hN : Nd V (w.heap.size + 1) k none none := by
    rw [hV]
    have := heap_alloc_new (w.alloc (.cells #[.int .u16 k.1, .string k.2] 39)) (.cells #[.int .u16 k.1, .string k.2, .pointer none, .pointer none] 146)
    rwa [World.size_alloc] at this
  have hV0 : V.cell? ⟨w.heap.size, 0, none⟩ = some (.int .u16 k.1) := by rw [hV]; simp
  have hV1 : V.cell? ⟨w.heap.size, 1, none⟩ = some (.string k.2) := by rw [hV]; simp
  have cV := (h.keep0 TV).ln.oc.c1
  obtain ⟨ob, hu, hm2⟩ := (show MapAt V.drew b L.length f from hmV.kept rfl).set (t := 124) Try.underlying124 (maxLen_big (by omega)) hk (PT (w.heap.size + 1))
  have HA := hid (enter_end (w := w) (m := some b) (h.ln.keep TV (fun _ _ e => by cases e)) hN hmV hk rfl hf hnk h.nd h.ok (Nat.le_succ _) (fun e he hh => by
    obtain ⟨x, y, hx⟩ := h.ln.sg.mem e he
    have := hx.lt
    omega) (Or.inl rfl) (TV.mono (fun _ e => by cases e)) hm2)
  have q60 := eq60
  clear h hm hf hmV hm2 hN TV hnk hk
  unfold PT kv at *
  unfold LP at HA
  go_enter Try.func70, Try.ntmps70
  go_wp2
  rw [← hV]
  clear hV
  generalize setBlock V.drew b ob = W2 at *
  go_region
  go_wp2_with (go_at_call 68; refine HA.out.mono ?_; rintro e w3 ⟨rfl, r⟩; have R := hid r; clear r)
  go_end0
  exact ⟨rfl, R.out⟩
set_option maxHeartbeats 2000000 in
theorem enter30_none (w : World) (o : Nat) (most : Int) (k : K) (hk : Ok k) (h : Od w o none most []) :
    Calls Try.prog 70 #[PT o, kv k] w fun x w' => x = .returned (.tuple #[]) ∧ EnQ w o none most [] k w' := by
  have c1 := h.ln.oc.c1
  have f1 := h.ln.oc.fr 1
  have ho := h.ln.oc.lt
  have hmm := @run_makeMap Try.prog
  have q60 := eq60
  have H := hid h
  clear h
  unfold PT kv
  go_enter Try.func70, Try.ntmps70
  go_wp2
  have h := H.out
  obtain ⟨V, hV⟩ : ∃ V, V = (((w.setCell ⟨o, 1, none⟩ (.map (some (w.heap.size + 1)))).alloc (.cells #[.int .u16 k.1, .string k.2] 39)).alloc (Obj.map #[] 0)).alloc (.cells #[.int .u16 k.1, .string k.2, .pointer none, .pointer none] 146) := ⟨_, rfl⟩
  have TV : Touch (fp o none []) w V := by rw [hV]; exact ((((Touch.refl _ _).setCell (by simp [fp]) _).alloc _).alloc _).alloc _
  have z1 : ((w.setCell ⟨o, 1, none⟩ (.map (some (w.heap.size + 1)))).alloc (.cells #[.int .u16 k.1, .string k.2] 39)).heap.size = w.heap.size + 1 := by simp [World.setCell]
  have hmV : MapAt V (w.heap.size + 1) 0 (fun _ => none) := by
    have := mapAt_made ((w.setCell ⟨o, 1, none⟩ (.map (some (w.heap.size + 1)))).alloc (.cells #[.int .u16 k.1, .string k.2] 39))
    rw [z1] at this
    rw [hV]
    exact this.kept (Below.heap_alloc _ _ _ this.lt)
  have hN : Nd V (w.heap.size + 1 + 1) k none none := by
    rw [hV]
    have := heap_alloc_new (((w.setCell ⟨o, 1, none⟩ (.map (some (w.heap.size + 1)))).alloc (.cells #[.int .u16 k.1, .string k.2] 39)).alloc (Obj.map #[] 0)) (.cells #[.int .u16 k.1, .string k.2, .pointer none, .pointer none] 146)
    rwa [World.size_alloc, z1] at this
  have hL : Ln V o most (some (w.heap.size + 1)) [] := by
    refine ⟨?_, trivial, by simp⟩
    rw [hV]
    exact (Below.heap_alloc _ _ _ (by simp [World.setCell]; omega)).trans ((Below.heap_alloc _ _ _ (by simp [World.setCell]; omega)).trans ((Below.heap_alloc _ _ _ (by simp [World.setCell]; omega)).trans (h.ln.oc.set1 _)))
  have hB : V.heap[w.heap.size]? = some (.cells #[.int .u16 k.1, .string k.2] 39 (0, 0)) := by
    rw [hV]
    have z0 : (w.setCell ⟨o, 1, none⟩ (.map (some (w.heap.size + 1)))).heap.size = w.heap.size := by simp [World.setCell]
    have := heap_alloc_new (w.setCell ⟨o, 1, none⟩ (.map (some (w.heap.size + 1)))) (.cells #[.int .u16 k.1, .string k.2] 39)
    rw [z0] at this
    exact (Below.heap_alloc _ _ _ (by rw [World.size_alloc, z1]; omega)).trans ((Below.heap_alloc _ _ _ (by rw [z1]; omega)).trans this)
  have hV0 : V.cell? ⟨w.heap.size, 0, none⟩ = some (.int .u16 k.1) := by simp [World.cell?, hB]
  have hV1 : V.cell? ⟨w.heap.size, 1, none⟩ = some (.string k.2) := by simp [World.cell?, hB]
  clear hB
  have cV := hL.oc.c1
  obtain ⟨ob, hu, hm2⟩ := (show MapAt V.drew (w.heap.size + 1) 0 (fun _ => none) from hmV.kept rfl).set (t := 124) Try.underlying124 (maxLen_big (by omega)) hk (PT (w.heap.size + 1 + 1))
  have HA := hid (enter_end (w := w) (m := none) hL hN hmV hk rfl ⟨fun e he => (by cases he), fun _ _ => rfl⟩ (by simp) (by simp) (fun e he => (by cases he)) (by omega) (fun e he => (by cases he)) (Or.inr (by omega)) TV hm2)
  rw [← hV]
  clear hV hL hN hmV hm2 TV H c1 f1 h hmm q60 z1 hk
  unfold PT at *
  unfold kv at *
  unfold LP at HA
  generalize setBlock V.drew (w.heap.size + 1) ob = W2 at *
  go_region
  go_wp2_with (go_at_call 68; refine HA.out.mono ?_; rintro e w3 ⟨rfl, r⟩; have R := hid r; clear r)
  go_end0
  exact ⟨rfl, R.out⟩
theorem enter30 (w : World) (o : Nat) (m : Option Nat) (most : Int) (L : List E) (k : K) (hk : Ok k) (hnk : ¬ k ∈ L.map Prod.fst) (hlen : L.length < 100000) (h : Od w o m most L) :
    Calls Try.prog 70 #[PT o, kv k] w fun x w' => x = .returned (.tuple #[]) ∧ EnQ w o m most L k w' := by
  cases m with
  | some b => exact enter30_some w o b most L k hk hnk hlen h
  | none =>
    obtain rfl : L = [] := by
      rcases h.mp with ⟨_, e⟩ | ⟨b, f, e, _⟩
      · exact e
      · cases e
    exact enter30_none w o most k hk h
end Go.Proofs.Ytopepalpmkeffaa
