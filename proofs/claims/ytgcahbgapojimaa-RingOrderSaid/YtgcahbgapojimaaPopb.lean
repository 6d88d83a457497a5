/- What a step of ring's Pop does, access by access. Condition: the arena, its port and the machine are there, the plan is right, the thread is there. -/
import Derived.Test.YtgcahbgapojimaaPopa
namespace Go.Proofs.Ytgcahbgapojimaa
open Go.RowKit
section
variable {w0 w w' : World} {B a c p m : Nat} {P T R t v tl nx : Int} {fu : Bool} {cs : List Int} {xs : List Value} {n : Nat} {K : List Nat} {who : Int} {o : Bool}

set_option maxRecDepth 100000 in
set_option maxHeartbeats 2000000 in
theorem pop_look_empty (x : Int) (h : PoS w0 B a c p m P T R t v tl nx fu cs xs n K who o w) (hmp : m ≠ p) (hm : m ∈ K) (hf : (x == tl) = true) :
    Calls Try.prog 97 #[.pointer (some ⟨m, 0, none⟩), .int .u64 x] w fun e w' => (∃ u, e = .returned u) ∧ PoS w0 B a c p m P T R t v tl 0 true cs xs n K who o w' := by
  have h3 := h.next hmp hm 5
  have n1 := h.nextCell
  have t3 := h3.tailCell
  have q3 := h3.fullCell
  have h5 := h3.full hmp hm true
  have h6 := h5.next hmp hm 0
  have n5 := h5.nextCell
  go_enter Try.func97, Try.ntmps97
  go_wp2
  go_end0
  exact ⟨⟨_, rfl⟩, h6⟩

set_option maxRecDepth 100000 in
set_option maxHeartbeats 2000000 in
theorem pop_look_some (x : Int) (h : PoS w0 B a c p m P T R t v tl nx fu cs xs n K who o w) (hmp : m ≠ p) (hm : m ∈ K) (hf : (x == tl) = false) :
    Calls Try.prog 97 #[.pointer (some ⟨m, 0, none⟩), .int .u64 x] w fun e w' => (∃ u, e = .returned u) ∧ PoS w0 B a c p m P T R t v tl 5 fu cs xs n K who o w' := by
  have h3 := h.next hmp hm 5
  have n1 := h.nextCell
  have t3 := h3.tailCell
  have q3 := h3.fullCell
  go_enter Try.func97, Try.ntmps97
  go_wp2
  go_end0
  exact ⟨⟨_, rfl⟩, h3⟩

set_option maxRecDepth 100000 in
set_option maxHeartbeats 2000000 in
theorem pop_step1 (h : PoS w0 B a c p m P T R t v tl 2 fu cs xs n K who true w) (hx : exB P T R t = true) (hmp : m ≠ p) (hm : m ∈ K) (hp : p ∈ K) (hn : n < 1000000) (hl : cs.length = cellsN P T R) :
    Calls Try.prog 42 #[.pointer (some ⟨m, 0, none⟩), .pointer (some ⟨p, 0, none⟩)] w fun e w' => e = .returned (.bool false) ∧
      PoS w0 B a c p m P T R t v (cs.getD (ownN R t 3) 0) 1 fu cs (xs ++ accV who 1 (ownN R t 3) 0 0 (cs.getD (ownN R t 3) 0) (cs.getD (ownN R t 3) 0)) (n + 1) K who false w' := by
  have hi := ownN_bd hx 3 (by decide) (by have := (exB_of hx).1.2.2.1; omega)
  have LD := Lib.hid (fun W (h : PoS w0 B a c p m P T R t v tl 2 fu cs xs n K who true W) => h.load hmp hm hp hn (i := ownN R t 3) (by rw [hl]; exact hi.2.1))
  have TT := Lib.hid (fun W => head_any P T R t W)
  rw [hi.1] at TT
  have Hmp := Lib.hid hmp
  clear hmp hi hl hx hn
  generalize cs.getD (ownN R t 3) 0 = z at *
  generalize ownN R t 3 = i at *
  go_enter Try.func42, Try.ntmps42
  go_wp2_with fail
  refine h.over.mono ?_; rintro e w1 ⟨rfl, h1⟩
  go_wp2_with fail
  refine h1.open'.mono ?_; rintro e w2 ⟨rfl, h2⟩
  have n2 := h2.nextCell
  go_wp2_with fail
  have hS := h2.drew
  clear h h1 h2
  go_region_held3 (fun W => W.cell? ⟨m, 0, none⟩ = some (.int .i64 P) ∧ W.cell? ⟨m, 1, none⟩ = some (.int .i64 T) ∧ W.cell? ⟨m, 2, none⟩ = some (.int .i64 R) ∧ W.cell? ⟨m, 3, none⟩ = some (.int .i64 t))
    (exact PoS.plan (by assumption))
    (first | (go_at_call 80; refine (TT.out _).mono ?_; rintro e w3 ⟨rfl, hb3⟩; have h3 := hS.grew hb3) | (go_at_call 94; refine (LD.out _ (by assumption)).mono ?_; rintro e w4 ⟨rfl, h4⟩; have n4 := h4.tailCell; have h5 := h4.tail Hmp.out hm z))
  have n5 := h5.nextCell
  have h6 := h5.next Hmp.out hm 1
  go_wp2_with fail
  refine h6.over.mono ?_; rintro e w7 ⟨rfl, h7⟩
  go_wp2
  go_ret
  exact ⟨rfl, h7⟩

set_option maxRecDepth 100000 in
set_option maxHeartbeats 2000000 in
theorem pop_step2_empty (h : PoS w0 B a c p m P T R t v tl 1 fu cs xs n K who true w) (hx : exB P T R t = true) (hmp : m ≠ p) (hm : m ∈ K) (hp : p ∈ K) (hn : n < 1000000) (hl : cs.length = cellsN P T R) (hf : (cs.getD (ownN R t 4) 0 == tl) = true) :
    Calls Try.prog 42 #[.pointer (some ⟨m, 0, none⟩), .pointer (some ⟨p, 0, none⟩)] w fun e w' => e = .returned (.bool true) ∧
      PoS w0 B a c p m P T R t v tl 0 true cs (xs ++ accV who 1 (ownN R t 4) 0 0 (cs.getD (ownN R t 4) 0) (cs.getD (ownN R t 4) 0)) (n + 1) K who false w' := by
  have hi := ownN_bd hx 4 (by decide) (by have := (exB_of hx).1.2.2.1; omega)
  have LD := Lib.hid (fun W (h : PoS w0 B a c p m P T R t v tl 1 fu cs xs n K who true W) => h.load hmp hm hp hn (i := ownN R t 4) (by rw [hl]; exact hi.2.1))
  have TT := Lib.hid (fun W => tail_any P T R t W)
  rw [hi.1] at TT
  have Hmp := Lib.hid hmp
  clear hmp hi hl hx hn
  generalize cs.getD (ownN R t 4) 0 = z at *
  generalize ownN R t 4 = i at *
  have LK := Lib.hid (fun W (h : PoS w0 B a c p m P T R t v tl 1 fu cs (xs ++ accV who 1 i 0 0 z z) (n + 1) K who false W) => pop_look_empty z h Hmp.out hm hf)
  clear hf
  go_enter Try.func42, Try.ntmps42
  go_wp2_with fail
  refine h.over.mono ?_; rintro e w1 ⟨rfl, h1⟩
  go_wp2_with fail
  refine h1.open'.mono ?_; rintro e w2 ⟨rfl, h2⟩
  have n2 := h2.nextCell
  go_wp2_with fail
  have hS := h2.drew
  clear h h1 h2
  go_region_held3 (fun W => W.cell? ⟨m, 0, none⟩ = some (.int .i64 P) ∧ W.cell? ⟨m, 1, none⟩ = some (.int .i64 T) ∧ W.cell? ⟨m, 2, none⟩ = some (.int .i64 R) ∧ W.cell? ⟨m, 3, none⟩ = some (.int .i64 t))
    (exact PoS.plan (by assumption))
    (first | (go_at_call 81; refine (TT.out _).mono ?_; rintro e w3 ⟨rfl, hb3⟩; have h3 := hS.grew hb3) | (go_at_call 94; refine (LD.out _ (by assumption)).mono ?_; rintro e w4 ⟨rfl, h4⟩) | (go_at_call 97; refine (LK.out _ (by assumption)).mono ?_; rintro e w5 ⟨⟨u5, rfl⟩, h5⟩))
  go_wp2_with fail
  refine h5.over.mono ?_; rintro e w7 ⟨rfl, h7⟩
  go_wp2
  go_ret
  exact ⟨rfl, h7⟩

set_option maxRecDepth 100000 in
set_option maxHeartbeats 2000000 in
theorem pop_step2_some (h : PoS w0 B a c p m P T R t v tl 1 fu cs xs n K who true w) (hx : exB P T R t = true) (hmp : m ≠ p) (hm : m ∈ K) (hp : p ∈ K) (hn : n < 1000000) (hl : cs.length = cellsN P T R) (hf : (cs.getD (ownN R t 4) 0 == tl) = false) :
    Calls Try.prog 42 #[.pointer (some ⟨m, 0, none⟩), .pointer (some ⟨p, 0, none⟩)] w fun e w' => e = .returned (.bool false) ∧
      PoS w0 B a c p m P T R t v tl 5 fu cs (xs ++ accV who 1 (ownN R t 4) 0 0 (cs.getD (ownN R t 4) 0) (cs.getD (ownN R t 4) 0)) (n + 1) K who false w' := by
  have hi := ownN_bd hx 4 (by decide) (by have := (exB_of hx).1.2.2.1; omega)
  have LD := Lib.hid (fun W (h : PoS w0 B a c p m P T R t v tl 1 fu cs xs n K who true W) => h.load hmp hm hp hn (i := ownN R t 4) (by rw [hl]; exact hi.2.1))
  have TT := Lib.hid (fun W => tail_any P T R t W)
  rw [hi.1] at TT
  have Hmp := Lib.hid hmp
  clear hmp hi hl hx hn
  generalize cs.getD (ownN R t 4) 0 = z at *
  generalize ownN R t 4 = i at *
  have LK := Lib.hid (fun W (h : PoS w0 B a c p m P T R t v tl 1 fu cs (xs ++ accV who 1 i 0 0 z z) (n + 1) K who false W) => pop_look_some z h Hmp.out hm hf)
  clear hf
  go_enter Try.func42, Try.ntmps42
  go_wp2_with fail
  refine h.over.mono ?_; rintro e w1 ⟨rfl, h1⟩
  go_wp2_with fail
  refine h1.open'.mono ?_; rintro e w2 ⟨rfl, h2⟩
  have n2 := h2.nextCell
  go_wp2_with fail
  have hS := h2.drew
  clear h h1 h2
  go_region_held3 (fun W => W.cell? ⟨m, 0, none⟩ = some (.int .i64 P) ∧ W.cell? ⟨m, 1, none⟩ = some (.int .i64 T) ∧ W.cell? ⟨m, 2, none⟩ = some (.int .i64 R) ∧ W.cell? ⟨m, 3, none⟩ = some (.int .i64 t))
    (exact PoS.plan (by assumption))
    (first | (go_at_call 81; refine (TT.out _).mono ?_; rintro e w3 ⟨rfl, hb3⟩; have h3 := hS.grew hb3) | (go_at_call 94; refine (LD.out _ (by assumption)).mono ?_; rintro e w4 ⟨rfl, h4⟩) | (go_at_call 97; refine (LK.out _ (by assumption)).mono ?_; rintro e w5 ⟨⟨u5, rfl⟩, h5⟩))
  go_wp2_with fail
  refine h5.over.mono ?_; rintro e w7 ⟨rfl, h7⟩
  go_wp2
  go_ret
  exact ⟨rfl, h7⟩

set_option maxRecDepth 100000 in
set_option maxHeartbeats 2000000 in
theorem pop_step3 (h : PoS w0 B a c p m P T R t v tl 5 fu cs xs n K who true w) (hx : exB P T R t = true) (hmp : m ≠ p) (hm : m ∈ K) (hp : p ∈ K) (hn : n < 1000000) (hl : cs.length = cellsN P T R) (hu : U64 tl) :
    Calls Try.prog 42 #[.pointer (some ⟨m, 0, none⟩), .pointer (some ⟨p, 0, none⟩)] w fun e w' => e = .returned (.bool false) ∧
      PoS w0 B a c p m P T R t (cs.getD (slotN R t tl) 0) tl 6 fu cs (xs ++ accV who 1 (slotN R t tl) 0 0 (cs.getD (slotN R t tl) 0) (cs.getD (slotN R t tl) 0)) (n + 1) K who false w' := by
  have hi := slotN_bd hx tl
  have LD := Lib.hid (fun W (h : PoS w0 B a c p m P T R t v tl 5 fu cs xs n K who true W) => h.load hmp hm hp hn (i := slotN R t tl) (by rw [hl]; exact hi.2.1))
  have TT := Lib.hid (fun W => slot_any P T R t tl W hu)
  rw [hi.1] at TT
  have Hmp := Lib.hid hmp
  clear hmp hi hl hx hn hu
  generalize cs.getD (slotN R t tl) 0 = z at *
  generalize slotN R t tl = i at *
  go_enter Try.func42, Try.ntmps42
  go_wp2_with fail
  refine h.over.mono ?_; rintro e w1 ⟨rfl, h1⟩
  go_wp2_with fail
  refine h1.open'.mono ?_; rintro e w2 ⟨rfl, h2⟩
  have n2 := h2.nextCell
  go_wp2_with fail
  have hS := h2.drew
  clear h h1 h2
  go_region_held3 (fun W => (W.cell? ⟨m, 0, none⟩ = some (.int .i64 P) ∧ W.cell? ⟨m, 1, none⟩ = some (.int .i64 T) ∧ W.cell? ⟨m, 2, none⟩ = some (.int .i64 R) ∧ W.cell? ⟨m, 3, none⟩ = some (.int .i64 t)) ∧ W.cell? ⟨m, 5, none⟩ = some (.int .u64 tl))
    (exact ⟨PoS.plan (by assumption), (PoS.tailCell (by assumption)).1⟩)
    (first | (go_at_call 82; refine (TT.out _).mono ?_; rintro e w3 ⟨rfl, hb3⟩; have h3 := hS.grew hb3) | (go_at_call 94; refine (LD.out _ (by assumption)).mono ?_; rintro e w4 ⟨rfl, h4⟩; have n4 := h4.valueCell; have h5 := h4.value Hmp.out hm z))
  have n5 := h5.nextCell
  have h6 := h5.next Hmp.out hm 6
  go_wp2_with fail
  refine h6.over.mono ?_; rintro e w7 ⟨rfl, h7⟩
  go_wp2
  go_ret
  exact ⟨rfl, h7⟩

set_option maxRecDepth 100000 in
set_option maxHeartbeats 2000000 in
theorem pop_step4 (h : PoS w0 B a c p m P T R t v tl 6 fu cs xs n K who true w) (hx : exB P T R t = true) (hmp : m ≠ p) (hm : m ∈ K) (hp : p ∈ K) (hn : n < 1000000) (hl : cs.length = cellsN P T R) :
    Calls Try.prog 42 #[.pointer (some ⟨m, 0, none⟩), .pointer (some ⟨p, 0, none⟩)] w fun e w' => e = .returned (.bool true) ∧
      PoS w0 B a c p m P T R t v tl 0 fu (cs.set (ownN R t 3) (IntKind.u64.wrap (tl + 1))) (xs ++ accV who 2 (ownN R t 3) 0 (IntKind.u64.wrap (tl + 1)) (cs.getD (ownN R t 3) 0) (IntKind.u64.wrap (tl + 1))) (n + 1) K who false w' := by
  have hi := ownN_bd hx 3 (by decide) (by have := (exB_of hx).1.2.2.1; omega)
  have ST := Lib.hid (fun W (h : PoS w0 B a c p m P T R t v tl 6 fu cs xs n K who true W) => h.store (IntKind.u64.wrap (tl + 1)) hmp hm hp hn (i := ownN R t 3) (by rw [hl]; exact hi.2.1))
  have TT := Lib.hid (fun W => head_any P T R t W)
  rw [hi.1] at TT
  have Hmp := Lib.hid hmp
  clear hmp hi hl hx hn
  generalize cs.getD (ownN R t 3) 0 = z at *
  generalize ownN R t 3 = i at *
  go_enter Try.func42, Try.ntmps42
  go_wp2_with fail
  refine h.over.mono ?_; rintro e w1 ⟨rfl, h1⟩
  go_wp2_with fail
  refine h1.open'.mono ?_; rintro e w2 ⟨rfl, h2⟩
  have n2 := h2.nextCell
  go_wp2_with fail
  have hS := h2.drew
  clear h h1 h2
  go_region_held3 (fun W => (W.cell? ⟨m, 0, none⟩ = some (.int .i64 P) ∧ W.cell? ⟨m, 1, none⟩ = some (.int .i64 T) ∧ W.cell? ⟨m, 2, none⟩ = some (.int .i64 R) ∧ W.cell? ⟨m, 3, none⟩ = some (.int .i64 t)) ∧ W.cell? ⟨m, 5, none⟩ = some (.int .u64 tl))
    (exact ⟨PoS.plan (by assumption), (PoS.tailCell (by assumption)).1⟩)
    (first | (go_at_call 80; refine (TT.out _).mono ?_; rintro e w3 ⟨rfl, hb3⟩; have h3 := hS.grew hb3) | (go_at_call 96; refine (ST.out _ (by assumption)).mono ?_; rintro e w4 ⟨⟨u4, rfl⟩, h5⟩))
  have n5 := h5.nextCell
  have h6 := h5.next Hmp.out hm 0
  go_wp2_with fail
  refine h6.over.mono ?_; rintro e w7 ⟨rfl, h7⟩
  go_wp2
  go_ret
  exact ⟨rfl, h7⟩

set_option maxRecDepth 100000 in
set_option maxHeartbeats 2000000 in
theorem pop_over (h : PoS w0 B a c p m P T R t v tl 0 fu cs xs n K who o w) :
    Calls Try.prog 42 #[.pointer (some ⟨m, 0, none⟩), .pointer (some ⟨p, 0, none⟩)] w fun e w' => e = .returned (.bool true) ∧ PoS w0 B a c p m P T R t v tl 0 fu cs xs n K who o w' := by
  go_enter Try.func42, Try.ntmps42
  go_wp2_with fail
  refine h.over.mono ?_; rintro e w1 ⟨rfl, h1⟩
  go_wp2_with fail
  refine h1.over.mono ?_; rintro e w2 ⟨rfl, h2⟩
  go_wp2
  go_ret
  exact ⟨rfl, h2⟩
set_option maxRecDepth 100000 in
set_option maxHeartbeats 2000000 in
theorem pop_shut (h : PoS w0 B a c p m P T R t v tl nx fu cs xs n K who false w) (hnx : (nx == 0) = false) :
    Calls Try.prog 42 #[.pointer (some ⟨m, 0, none⟩), .pointer (some ⟨p, 0, none⟩)] w fun e w' => e = .returned (.bool false) ∧ PoS w0 B a c p m P T R t v tl nx fu cs xs n K who false w' := by
  have O := Lib.hid (fun W (h : PoS w0 B a c p m P T R t v tl nx fu cs xs n K who false W) => h.over)
  rw [hnx] at O
  clear hnx
  go_enter Try.func42, Try.ntmps42
  go_wp2_with fail
  refine (O.out _ h).mono ?_; rintro e w1 ⟨rfl, h1⟩
  go_wp2_with fail
  refine h1.open'.mono ?_; rintro e w2 ⟨rfl, h2⟩
  go_wp2_with fail
  refine (O.out _ h2).mono ?_; rintro e w3 ⟨rfl, h3⟩
  go_wp2
  go_ret
  exact ⟨rfl, h3⟩
end
end Go.Proofs.Ytgcahbgapojimaa
